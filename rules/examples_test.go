package rules

import (
	"testing"

	"twine/api"
)

func TestP11_Example1(t *testing.T) {
	r := parsed(t, "skip *.o\n\n# mine\nprefer a /doc/**\nprefer b *.md")
	want(t, "rules", len(r.List()), 3)
	for p, let := range map[string]bool{"x/y.o": true, "x/y.o/z": true, "x": false} {
		want(t, "Skip of "+p, r.Skip(p), let)
	}
	for p, side := range map[string]int{"doc/a.txt": 1, "doc/a.md": 2, "x/a.md": 2, "x": 0} {
		want(t, "Prefer of "+p, r.Prefer(p), side)
	}
	want(t, "Text", r.Text(), "skip *.o\nprefer a /doc/**\nprefer b *.md")
}

func TestP11_Example2(t *testing.T) {
	refused(t, "skip", 1, api.ErrRulesWord)
	refused(t, "skip ", 1, api.ErrRulesPattern)
	refused(t, " skip x", 1, api.ErrRulesWord)
	refused(t, "\nprefer c x", 2, api.ErrRulesWord)
	refused(t, lineOf("skip x", 65), 65, api.ErrRulesMany)
}
