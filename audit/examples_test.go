package audit

import (
	"testing"

	"twine/api"
	"twine/rules"
)

// This file: the chapter's examples.

func replicaTold(t testing.TB, l []api.Thing, r *rules.Rules) (string, []string) {
	t.Helper()
	x, held, e := Replica(l, r)
	mustWant(t, "Replica", e, api.OK)
	return toldTree(x), held
}

// finds looks that Faults tells just that.
func finds(t testing.TB, what string, vols [3][]api.Thing, r *rules.Rules, most int, line string) {
	t.Helper()
	l, e := Faults(vols, r, most)
	want(t, what+": error", e, api.OK)
	want(t, what+": faults", toldFaults(l), line)
}

// leads looks where After leads to: A, B and O as things are written, and the report's entries.
func leads(t testing.TB, what string, vols [3][]api.Thing, r *rules.Rules, most int, a, b, o, entries string) {
	t.Helper()
	x, e := After(vols, r, most)
	want(t, what+": error", e, api.OK)
	want(t, what+": A", toldNode(x.A), toldTree(grown(t, a)))
	want(t, what+": B", toldNode(x.B), toldTree(grown(t, b)))
	want(t, what+": O", toldNode(x.O), toldTree(grown(t, o)))
	want(t, what+": report", toldReport(x.Report), "end yes: "+entries)
}

// refuses looks that After tells that error and nothing else.
func refuses(t testing.TB, what string, vols [3][]api.Thing, r *rules.Rules, most int, wanted api.Errno) {
	t.Helper()
	x, e := After(vols, r, most)
	want(t, what+": error", e, wanted)
	want(t, what+": nothing else", isZero(x), true)
}

func TestP21_2Example1(t *testing.T) {
	told, held := replicaTold(t, nil, rules.None())
	want(t, "tree", told, "@7")
	want(t, "held", len(held), 0)
}

func TestP21_3Example1(t *testing.T) {
	finds(t, "nothing", [3][]api.Thing{}, rules.None(), 100, "")
}

func TestP21_5Example1(t *testing.T) {
	leads(t, "nothing", [3][]api.Thing{}, rules.None(), 100, "@7", "@7", "@7", " both")
}

func TestP21_3Example2(t *testing.T) {
	finds(t, "f on A", volumes("f:6=abc~0", "", ""), rules.None(), 100, "a f unlike")
}

func TestP21_5Example2(t *testing.T) {
	leads(t, "f on A", volumes("f:6=abc~0", "", ""), rules.None(), 100, "f:6=abc", "f:6=abc", "f:6=abc", " both, f carry a put")
}

func TestP21_3Example3(t *testing.T) {
	finds(t, "three bytes", volumes("", ".twine:6=x", "archive:7=abc"), rules.None(), 100, "b .twine left, s archive 60")
}

func TestP21_5Example3(t *testing.T) {
	refuses(t, "three bytes", volumes("", ".twine:6=x", "archive:7=abc"), rules.None(), 100, api.ErrCodecMark)
}
