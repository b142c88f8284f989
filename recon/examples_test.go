package recon

import "testing"

// The chapter's examples; the archive has d (7) with f (6, digest 1).
func TestP14_3Examples(t *testing.T) {
	o := top(dir("d", 7, file("f", 1)))
	root, d := "/ Both mode 7 1>1", "d Both mode 7 1>1"
	question{a: top(dir("d", 7, file("f", 2))), b: o, o: o}.want(t, "1", root, d, "d/f Carry A 1>1 1/2 over 1/1")
	question{a: top(), b: o, o: o}.want(t, "2", root, "d Carry A 2>0 0/0 over 2/1")
	question{a: top(), b: o, o: o, held: ofB("", "d")}.want(t, "3", root, "d Kept B mode 7 1>1", "d/f Carry A 1>0 0/0 over 1/1")
	changed := top(dir("d", 7, file("f", 2)))
	question{a: top(), b: changed, o: o}.want(t, "4", root, "d Conflict 2>2")
	question{a: top(), b: changed, o: o, rules: "prefer b d"}.want(t, "4, preferred", root, "d Carry B 2>2 2/2 over 0/0")
	question{a: top(dir("d", 5, file("f", 1))), b: o, o: o}.want(t, "5", root, "d Both A mode 5 1>1", "d/f Agreed 1>1")
	question{a: top(dir("d", 7, file("g", 3))), b: o, o: o, lost: ofA("d/f")}.want(t, "6", root, d, "d/f Conflict 1>1", "d/g Carry A 0>1 1/3 over 0/0")
}
