package rules

import (
	"fmt"
	"slices"
	"strings"
	"testing"

	"twine/path"
)

// texts: right ones of all forms, the greatest too.
func texts() []string {
	return append(manyRules(7, 300),
		"", "\n", "#", "skip  ", "skip \r", "skip #", "skip \xFF\n\n#", "prefer a  a ", "skip skip ",
		lineOf("skip x", 64), lineOf("\nprefer b *", 64), "skip "+strings.Repeat("x", 255),
		filled("skip a\n", 4000), strings.Repeat("skip "+strings.Repeat("x", 244)+"\n", 16))
}

func TestP11_7ThereAndBack(t *testing.T) {
	paths := append(manyPaths(), fewPaths()...)
	for _, text := range texts() {
		for _, r := range []*Rules{parsed(t, text), parsed(t, text).Mirror()} {
			told := r.Text()
			again := parsed(t, told)
			what := fmt.Sprintf("%.50q", text)
			wantList(t, what+": List", again.List(), plain(r.List()))
			want(t, what+": Text", again.Text(), told)
			want(t, what+": it is longer", len(told) > len(text), false)
			for _, p := range paths {
				if again.Skip(p) != r.Skip(p) || again.Prefer(p) != r.Prefer(p) {
					t.Errorf("%s: of %q it says another thing", what, p)
				}
			}
		}
	}
}

// A text that is as Text writes it comes back byte by byte.
func TestP11_7OneForm(t *testing.T) {
	for _, text := range []string{"", "skip x", "skip x\nskip x", "prefer a x\nprefer b  y \nskip #", strings.TrimSuffix(lineOf("prefer b x", 64), "\n"), "skip \x00\xFF\r"} {
		want(t, text, parsed(t, text).Text(), text)
	}
}

func TestP11_8WhatLiesBelow(t *testing.T) {
	paths := manyPaths()
	for _, text := range manyRules(8, 300) {
		r := parsed(t, text)
		for _, p := range paths {
			above, _ := path.Above(p)
			if p != "" && r.Skip(above) && !r.Skip(p) {
				t.Errorf("%q: %q is let be, %q isn't", text, above, p)
			}
			if r.Skip(p) && !r.Skip(p+"/"+deep(60, "z")) {
				t.Errorf("%q: %q is let be, what lies far below it isn't", text, p)
			}
		}
	}
}

func TestP11_8Mirror(t *testing.T) {
	paths := append(manyPaths(), fewPaths()...)
	for _, text := range texts() {
		r := parsed(t, text)
		m := r.Mirror()
		back := m.Mirror()
		what := fmt.Sprintf("%.50q", text)
		want(t, what+": how many", len(m.List()), len(r.List()))
		want(t, what+": the mirror's mirror", back.Text(), r.Text())
		want(t, what+": its rules", slices.Equal(back.List(), r.List()), true)
		for _, p := range paths {
			if m.Skip(p) != r.Skip(p) || back.Skip(p) != r.Skip(p) || back.Prefer(p) != r.Prefer(p) || m.Prefer(p) != (3-r.Prefer(p))%3 {
				t.Errorf("%s: of %q the mirror says %v, %d, its mirror %v, %d, the rules %v, %d", what, p, m.Skip(p), m.Prefer(p), back.Skip(p), back.Prefer(p), r.Skip(p), r.Prefer(p))
			}
		}
	}
}
