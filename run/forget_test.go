package run

import (
	"fmt"
	"testing"

	"twine/api"
	"twine/tree"
)

// changedFile: f on both sides and in the archive; A has changed it since. Without the archive nobody knows that.
func changedFile(t testing.TB) *pair {
	return paired(t, archived(t, "f:6=new", "f:6=abc", "@7 f:6=abc"), 100).counted()
}

const (
	byArchive = "end yes:  both, f carry a put"
	byFirst   = "end yes forgot:  both, f conflict"
)

func TestP19_2Forget(t *testing.T) {
	want(t, "without", changedFile(t).round(""), byArchive)
	q := changedFile(t)
	want(t, "Forget", q.forget(), api.OK)
	want(t, "Forget twice", q.forget(), api.OK)
	want(t, "behind it", q.round(""), byFirst)
	want(t, "the archive", archiveTold(q.w), "@7")
	q.edit(api.B, write("f", "new"))
	want(t, "it saved: no more", q.round(""), "end yes:  both, f agreed")
	q.edit(api.B, remove("f"))
	want(t, "by the archive", q.round(""), "end yes:  both, f carry b put")
}

// At each moment of a run it is refused, and changes nothing.
func TestP19_2ForgetUnderWay(t *testing.T) {
	q := changedFile(t)
	q.begin("")
	for q.x.Status().Phase != api.DidNothing {
		want(t, "Forget", q.forget(), api.ErrRunRunning)
		q.do()
	}
	want(t, "this run", toldReport(q.x.Report()), byArchive)
	q.edit(api.B, write("f", "newer"))
	want(t, "the next one", q.round(""), "end yes:  both, f carry b put")
}

// Till a run has saved: one that ended ahead of the Rename hasn't, one that ended behind it has, even if nobody is sure of that.
func TestP19_2ForgetTillSaved(t *testing.T) {
	q := changedFile(t)
	q.begin("")
	q.until(api.DidPlan)
	steps := 0
	for q.x.Status().Phase != api.DidNothing {
		q.do()
		steps++
	}
	for _, how := range []string{"fault", "fall", "cancel"} {
		for n := range steps {
			q := changedFile(t)
			q.what = fmt.Sprint(how, " ", n)
			q.forget()
			q.begin("")
			q.until(api.DidPlan)
			q.dos(n)
			saved := q.plain.saved
			switch how {
			case "fault":
				q.rig(api.S, 0, 1, 0, false)
				q.rig(api.A, 0, 1, 0, false)
				q.rig(api.B, 0, 1, 0, false)
				q.ends()
				saved = q.x.Report().Saved
				q.counted()
				want(t, q.what, q.x.Report().Forgot, true)
			case "fall":
				q.fall([3]int{99, 99, 99}, [3][]int{{99}, {99}, {9999}})
			default:
				q.cancel()
				q.cancel()
				want(t, q.what, q.x.Report().Forgot, true)
			}
			q.begin("")
			q.ends()
			want(t, q.what+": the next run", q.x.Report().Forgot, saved == api.SavedNo)
			want(t, q.what+": the next run", q.x.Report().Saved, api.SavedYes)
			q.round("")
			want(t, q.what+": the one behind that", q.x.Report().Forgot, false)
		}
	}
}

// A run that never came to the archive took none.
func TestP19_8ForgotNothing(t *testing.T) {
	q := changedFile(t)
	q.forget()
	q.begin("")
	q.cancel()
	want(t, "ahead of the first step", toldReport(q.x.Report()), "cancel no")
	q.begin("")
	q.dos(1)
	q.cancel()
	want(t, "behind one step", toldReport(q.x.Report()), "cancel no")
	q.rig(api.S, 0, 1, 0, false)
	want(t, "the first step fails", q.round(""), "fault no 92")
	q.rig(api.S, 0, 1, 0, true)
	want(t, "the second step fails", q.round(""), "fault no 92")
	q.counted()
	q.begin("")
	q.dos(2)
	q.cancel()
	want(t, "behind the load", toldReport(q.x.Report()), "cancel no forgot")
	want(t, "a whole one", q.round(""), byFirst)
}

// Whatever S holds: the first archive is taken, unless the world fails or the new one's place isn't free.
func TestP19_4ForgetLoads(t *testing.T) {
	for _, c := range []struct{ what, s, without, with, behind string }{
		{"nothing", "", "end yes:  both, f conflict", byFirst, "@7"},
		{"three bytes", "archive:6=abc", "bad no 60", byFirst, "@7"},
		{"no bytes", "archive:6=", "bad no 60", byFirst, "@7"},
		{"a link", "archive>to", "bad no 100", byFirst, "@7"},
		{"a directory", "archive@7", "bad no 100", "fault no 96 forgot:  both, f conflict", "none"},
		{"half of a new one", "archive.new:6=abc", "end yes:  both, f conflict", byFirst, "@7"},
		{"an empty directory for a new one", "archive.new@6 archive:7=abcd", "bad no 60", byFirst, "@7"},
		{"a directory for a new one", "archive.new@6 archive.new/x:6=a", "bad no 97", "bad no 97", "none"},
		{"both", "archive.new@6 archive.new/x:6=a archive@6", "bad no 97", "bad no 97", "none"},
	} {
		q := paired(t, worldOf(t, "f:6=new", "f:6=abc", c.s), 100).counted()
		q.what = c.what
		want(t, c.what, q.round(""), c.without)
		q = paired(t, worldOf(t, "f:6=new", "f:6=abc", c.s), 100).counted()
		q.what = c.what + ", Forget"
		q.forget()
		want(t, q.what, q.round(""), c.with)
		want(t, q.what+": the archive", archiveTold(q.w), c.behind)
	}
}

// An archive that can't be read: that is a fault, Forget or not. One that is too great, or whose hash is wrong, is forgotten; the wrong hash may even be that of a directory with the new archive's name.
func TestP19_4ForgetRefused(t *testing.T) {
	for after := range 3 {
		for _, reading := range []bool{true, false} {
			q := changedFile(t)
			q.forget()
			q.begin("")
			q.dos(1)
			q.rig(api.S, after, 1, 0, reading)
			told := toldReply(q.do())
			fails := reading || after == 0 // Stat, Stat, Read; Sync
			want(t, fmt.Sprint("call ", after, reading), told == "fault!92", fails)
			want(t, fmt.Sprint("call ", after, reading), told == "load", !fails)
		}
	}
	wrong := wrongHash(t, treeOf(t, "archive.new@7 archive.new/x:6=abc"), "archive.new")
	for what, c := range map[string]struct {
		b      []byte
		most   int
		refuse string
	}{
		"bounds": {encoded(t, treeOf(t, "a@7 b@7 c@7"), 3), 3, "bad no 64"},
		"hash":   {wrong, 100, "bad no 65"},
	} {
		for _, forget := range []bool{false, true} {
			q := paired(t, cappedWorld(t, api.Caps{}, "f:6=new", "f:6=abc", archiveThing(c.b)), c.most).counted()
			q.what = what
			if forget {
				q.forget()
				c.refuse = byFirst
			}
			want(t, what, q.round(""), c.refuse)
		}
	}
}

// wrongHash: the bytes of a tree with one directory's hash turned, and a right sum.
func wrongHash(t testing.TB, x *tree.Tree, dir string) []byte {
	t.Helper()
	b := encoded(t, x, 3)
	for i := range b {
		y := resummed(append([]byte{}, b...), i)
		if f := decodeFault(y); f.Err == api.ErrCodecHash && f.Path == dir {
			return y
		}
	}
	t.Fatal("no such byte")
	return nil
}
