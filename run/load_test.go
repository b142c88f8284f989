package run

import (
	"fmt"
	"testing"

	"twine/api"
	"twine/store"
)

// What stands at the archive's place, and at the new one's.
func TestP19_4Load(t *testing.T) {
	for _, c := range []struct{ what, s, told string }{
		{"nothing", "", "load load"},
		{"other things alone", "other:6=abc d@5 d/archive:6=abc", "load load"},
		{"a half new one", "archive.new:6=abc", "load load"},
		{"a link for a new one", "archive.new>archive", "load load"},
		{"an empty directory for a new one", "archive.new@6", "load load"},
		{"a directory for a new one", "archive.new@6 archive.new/x:6=a", "load bad!97"},
		{"no bytes", "archive:6=", "load bad!60"},
		{"three bytes", "archive:6=twn", "load bad!60"},
		{"no version", "archive:6=twne", "load bad!61"},
		{"a link", "archive>archive.new", "load bad!100"},
		{"a directory", "archive@7", "load bad!100"},
	} {
		q := paired(t, worldOf(t, "", "", c.s), 100).counted()
		q.what = c.what
		q.begin("")
		want(t, c.what, q.dos(2), c.told)
		if q.x.Status().Phase == api.DidNothing {
			idle(t, c.what, q)
			holds(t, q.w, api.A, "@7")
			holds(t, q.w, api.B, "@7")
			continue
		}
		left := pictured(q.w, api.S, true)
		_, stays := left["archive.new"]
		want(t, c.what+": the half one stays", stays, false)
		want(t, c.what, q.ends(), "clean:.twine clean:.twine scan scan plan sure sure "+saving)
	}
}

// Archives of each version; of one node more than may be; damaged; with a wrong hash. What the rules let be is not taken from it.
func TestP19_4LoadVersions(t *testing.T) {
	o := treeOf(t, "@7 f:6=abc x.o:6=old")
	for version := 1; version <= 3; version++ {
		for most, told := range map[int]string{3: "end yes:  both, f carry a put", 2: "bad no 64"} {
			w := cappedWorld(t, api.Caps{}, "f:6=new", "f:6=abc", archiveThing(encoded(t, o, version)))
			q := paired(t, w, most).counted()
			q.what = fmt.Sprint("version ", version)
			want(t, q.what, q.round("skip *.o"), told)
			if most == 3 {
				want(t, q.what+": the archive", archiveTold(w), "@7 f:6.3(11,0)")
				want(t, q.what+": saved as", pictured(w, api.S, true)["archive"].data[4], byte(3))
			}
		}
	}
	b := encoded(t, o, 3)
	for i := range b {
		y := append([]byte{}, b...)
		y[i] ^= 1
		q := paired(t, cappedWorld(t, api.Caps{}, "", "", archiveThing(y)), 100).counted()
		q.begin("")
		q.dos(1)
		r := q.do()
		if e := decodeFault(y).Err; r != (api.Reply{Did: api.DidBad, Err: e}) || e == api.OK {
			t.Errorf("byte %d: %s, Decode says %d", i, toldReply(r), e)
		}
		want(t, "Report", q.x.Report().Err, r.Err)
		want(t, "the archive is the old one", pictured(q.w, api.S, true)["archive"].data, string(y))
	}
}

// Each call of the load fails once: the run ends, and the next one goes on as if nothing had been.
func TestP19_4LoadFaults(t *testing.T) {
	calls := map[string]int{}
	for _, reading := range []bool{false, true} {
		for after := range 5 {
			s := archiveThing(encoded(t, treeOf(t, "f:6=abc"), 3))
			s = append(s, things(300, "archive.new:6=abc")...)
			q := paired(t, cappedWorld(t, api.Caps{}, "f:6=new", "f:6=abc", s), 100).counted()
			q.rig(api.S, after, 1, 0, reading)
			q.begin("")
			told := q.dos(2)
			switch told {
			case "load load":
				continue
			case "fault!92 nothing!191", "load fault!92":
			default:
				t.Error(after, reading, told)
			}
			calls[told]++
			want(t, "Report", toldReport(q.x.Report()), "fault no 92")
			q.counted()
			want(t, "again", q.round(""), "end yes:  both, f carry a put")
		}
	}
	// SyncVolume in the first step; Remove, Sync, and Stat, Stat, Read in the second.
	want(t, "faults", fmt.Sprint(calls), "map[fault!92 nothing!191:1 load fault!92:5]")
}

// Ahead of the first run a directory alone, of unknown mode: modes that differ are in conflict, those that don't are agreed.
func TestP19_4FirstArchive(t *testing.T) {
	for b, told := range map[string]string{"@7": "end yes:  both", "@5": "end yes:  modes"} {
		q := paired(t, worldOf(t, "@7", b, ""), 100).counted()
		want(t, b, q.round(""), told)
	}
	want(t, "First", store.First().Value(), api.Value{Kind: api.Dir, Mode: api.Unknown})
}
