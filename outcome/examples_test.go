package outcome

import (
	"testing"

	"twine/api"
)

// The chapter's examples: those of layer 14, all done; the archive has d (7) with f (6, digest 1).
func TestP18_2Examples(t *testing.T) {
	o := top(dir("d", 7, marked(file("f", 1), 4, 5)))
	b := top(dir("d", 7, marked(file("f", 1), 0, 5)))
	changed := marked(top(dir("d", 7, file("f", 2))), 6, 0)
	old := "/7 d/7 d/f:6.1(4,5)"
	for _, c := range []struct {
		what string
		q    question
		want string
	}{
		{"1", question{a: changed, b: b, o: o}, "/7 d/7 d/f:6.2(6,0)"},
		{"2", question{a: top(), b: b, o: o}, "/7"},
		{"3", question{a: top(), b: b, o: o, held: lists{nil, {"", "d"}}}, "/7 d/7"},
		{"4", question{a: top(), b: marked(changed, 0, 7), o: o}, old},
		{"4, preferred", question{a: top(), b: marked(changed, 0, 7), o: o, rules: "prefer b d"}, "/7 d/7 d/f:6.2(0,7)"},
		{"5", question{a: marked(top(dir("d", 5, file("f", 1))), 8, 0), b: b, o: o}, "/7 d/5 d/f:6.1(8,5)"},
		{"6", question{a: marked(top(dir("d", 7, file("g", 3))), 9, 0), b: b, o: o, lost: lists{{"d/f"}, nil}}, old + " d/g:6.3(9,0)"},
	} {
		c.q.want(t, c.what, c.want, done(c.q.merge(t))...)
	}
	question{a: changed, b: b, o: o}.want(t, "1, failed", old, api.HowNone, api.HowNone, api.HowFailed)
}
