package run

import (
	"testing"

	"twine/api"
	"twine/rules"
	"twine/world"
)

const saving = "save save save save save save end" // of an archive of one piece

// The chapter's examples, Do by Do.
func TestP19_3Examples(t *testing.T) {
	w, e := world.New(api.Caps{}, 1, [3][]api.Thing{})
	mustWant(t, "world.New", e, api.OK)
	q := paired(t, w, 100).counted()
	want(t, "1: Begin", q.begin(""), api.OK)
	want(t, "1: Begin again", q.x.Begin(rules.None()), api.ErrRunRunning)
	want(t, "1", q.dos(9), "load load clean:.twine clean:.twine scan scan plan sure sure")
	want(t, "1", q.dos(7), saving)
	want(t, "1: behind it", q.x.Do(), api.Reply{Did: api.DidNothing, Err: api.ErrRunNone})
	want(t, "1", toldReport(q.x.Report()), "end yes:  both")
	want(t, "1: the archive", archiveTold(w), "@7")

	q.edit(api.A, newFile("f", "abc"))
	q.begin("")
	want(t, "2", q.ends(), "load load scan scan:f scan plan look#1:f stage#1:f put#1:f sure sure sure sure "+saving)
	holds(t, w, api.B, "@7 f:6=abc")
	want(t, "2", toldReport(q.x.Report()), "end yes:  both, f carry a put")

	q.edit(api.B, write("f", "xy"))
	q.edit(api.A, chmod("f", 4))
	want(t, "3", q.round(""), "end yes:  both, f conflict")
	holds(t, w, api.A, "@7 f:4=abc")
	holds(t, w, api.B, "@7 f:6=xy")

	q.rig(api.S, 0, 1, 0, false)
	q.begin("")
	want(t, "4", q.do(), api.Reply{Did: api.DidFault, Err: api.ErrWorldFault})
	want(t, "4", toldReport(q.x.Report()), "fault no 92")
}
