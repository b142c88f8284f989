package run

import (
	"fmt"
	"strings"
	"testing"

	"twine/api"
	"twine/world"
)

// crowd: a world with so many links on both sides: the new archive has some pieces.
func crowd(t testing.TB, n int) *world.World {
	line := ".twine@7"
	for i := range n {
		line += fmt.Sprintf(" l%02d>to", i)
	}
	return worldOf(t, line, line, "")
}

// saveSteps: how many steps the save of a run over w takes, and its archive's bytes.
func saveSteps(t testing.TB, w *world.World) (int, int) {
	q := paired(t, w, 100).counted()
	q.begin("")
	n := strings.Count(q.ends(), "save")
	return n, len(pictured(w, api.S, true)["archive"].data)
}

// One call a step, as many pieces as the bytes have.
func TestP19_4SaveSteps(t *testing.T) {
	seen := map[int]bool{}
	for _, n := range []int{0, 1, 5, 11, 12, 13, 25, 60} {
		steps, size := saveSteps(t, crowd(t, n))
		want(t, fmt.Sprint(n, " links"), steps, 5+(size+511)/512)
		seen[(size+511)/512] = true
	}
	want(t, "archives of one piece, two and more", seen[1] && seen[2] && len(seen) > 2, true)
}

// What is saved: the new tree in version 3; what else S holds stays.
func TestP19_4SaveBytes(t *testing.T) {
	for _, s := range scenes() {
		q := s.pair(t)
		q.round(s.rules)
		now := pictured(q.w, api.S, true)
		want(t, s.what+": nothing else", len(now), 2)
		want(t, s.what+": all of it is sure", pictured(q.w.After([3]int{}, [3][]int{}), api.S, true).told(), now.told())
		b := encoded(t, archiveOf(q.w), 3)
		want(t, s.what+": version 3", now["archive"].data, string(b))
	}
}

// behind: a run over a world up to a step of its save.
func behind(t testing.TB, links, step int) *pair {
	q := paired(t, crowd(t, links), 100).counted()
	q.what = fmt.Sprint(links, " links, step ", step, " of the save")
	q.begin("")
	for q.told["sure"] < 2 {
		q.do()
	}
	q.dos(step)
	return q
}

// A fault at each call: the run ends, DidFault. The archive is the old one ahead of the Rename, else the new one; nobody is sure of that till the last call.
func TestP19_8SavedByFaults(t *testing.T) {
	for _, links := range []int{0, 30} {
		steps, size := saveSteps(t, crowd(t, links))
		pieces := (size + 511) / 512
		for n := range steps {
			q := behind(t, links, n)
			q.rig(api.S, 0, 1, 100, false)
			want(t, q.what, toldReply(q.do()), "fault!92")
			saved := api.SavedNo
			if n == steps-1 {
				saved = api.SavedPerhaps
			}
			r := q.x.Report()
			want(t, q.what+": Over", r.Over, api.OverFault)
			want(t, q.what+": Err", r.Err, api.ErrWorldFault)
			want(t, q.what+": Saved", r.Saved, saved)
			want(t, q.what+": Entries", len(r.Entries), links+1)
			_, there := pictured(q.w, api.S, true)["archive"]
			want(t, q.what+": the archive", there, n > 1+pieces+2)
			q.heldOut()
			q.counted()
			q.begin("")
			want(t, q.what+": then", strings.Count(q.ends(), "save"), steps)
			want(t, q.what+": then", q.x.Report().Saved, api.SavedYes)
			_, stays := pictured(q.w, api.S, true)["archive.new"]
			want(t, q.what+": the half one", stays, false)
		}
	}
}

// A fall behind each step, with whatever survives: the archive decodes, as the old one or as the new one, and another run ends well.
func TestP19_4SaveFalls(t *testing.T) {
	t.Parallel()
	for _, links := range []int{0, 30} {
		steps, _ := saveSteps(t, crowd(t, links))
		for n := range steps + 1 {
			for names := range 4 {
				for _, keep := range []int{0, 1, 600, 1 << 20} {
					q := behind(t, links, n)
					fresh := string(q.plain.bytes)
					q.fall([3]int{9, 9, names}, [3][]int{{9}, {9}, {keep}})
					now, there := pictured(q.w, api.S, true)["archive"]
					if there && (now.data != fresh || n < steps-1) || n == steps && !there {
						t.Errorf("%s, %d names, %d bytes: %s", q.what, names, keep, now.data)
					}
					idle(t, q.what, q)
					want(t, q.what, toldReport(q.x.Report()), "not no")
					q.round("")
					want(t, q.what, q.x.Report().Saved, api.SavedYes)
				}
			}
		}
	}
}

// An old archive stays, whole, as long as the new one isn't in its place.
func TestP19_4SaveOverOld(t *testing.T) {
	for n := range 9 {
		q := paired(t, archived(t, ".twine@7 f:6=abc", ".twine@7", "d@7"), 100).counted()
		old := pictured(q.w, api.S, true)["archive"].data
		q.begin("")
		for q.told["sure"] < 4 {
			q.do()
		}
		q.dos(n)
		q.fall([3]int{9, 9, 0}, [3][]int{{9}, {9}, {}})
		now := pictured(q.w, api.S, true)["archive"].data
		switch {
		case n < 5:
			want(t, fmt.Sprint("step ", n), now, old)
		case n == 5: // the Rename may be there
			want(t, fmt.Sprint("step ", n), now == old || now == string(q.plain.bytes), true)
		default:
			want(t, fmt.Sprint("step ", n), now, string(q.plain.bytes))
		}
	}
}

// S is full: no name for the new one, or no room for its bytes.
func TestP19_4SaveFull(t *testing.T) {
	for what, c := range map[string]struct {
		caps   api.Caps
		report string
	}{
		"no name":  {api.Caps{Names: [3]int{0, 0, 1}}, "fault no 99:  both, f carry a put"},
		"no bytes": {api.Caps{Bytes: [3]int{0, 0, 100}}, "fault no 99:  both, f carry a put"},
		"room":     {api.Caps{Bytes: [3]int{0, 0, 400}, Names: [3]int{0, 0, 2}}, "end yes:  both, f carry a put"},
	} {
		w := cappedWorld(t, c.caps, "f:6=abc .twine@7", ".twine@7", archiveThing(encoded(t, treeOf(t, ""), 3)))
		q := paired(t, w, 100).counted()
		q.what = what
		want(t, what, q.round(""), c.report)
		q.heldOut()
		holds(t, w, api.B, "@7 f:6=abc")
	}
}
