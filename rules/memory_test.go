package rules

import (
	"slices"
	"sync"
	"testing"

	"twine/api"
)

// scrawl writes over a list, and over the room behind it.
func scrawl(l []api.Rule) {
	l = l[:cap(l)]
	for i := range l {
		l[i] = api.Rule{What: api.RulePreferB, Pattern: "*"}
	}
}

// What List hands out may be written over: neither the rules nor another list, nor a mirror, are touched by it.
func TestP11_3ListIsNewMemory(t *testing.T) {
	text := "skip a\nprefer a b\nskip c\nprefer b d\nskip e"
	l, _, _ := plainParse(text)
	r := parsed(t, text)
	m := r.Mirror()
	one, other, mirrored := r.List(), r.List(), m.List()
	scrawl(one)
	wantList(t, "another list", other, l)
	alike(t, "the rules", r, l, fewPaths())
	alike(t, "a mirror made ahead of it", m, l.mirror(), fewPaths())
	alike(t, "one made behind it", r.Mirror(), l.mirror(), fewPaths())
	wantList(t, "the mirror's list", mirrored, l.mirror())
	scrawl(m.List())
	scrawl(m.Mirror().List())
	alike(t, "the rules, behind the mirror's", r, l, fewPaths())
	alike(t, "the mirror", m, l.mirror(), fewPaths())
	_ = append(other[:2], api.Rule{What: api.RuleSkip, Pattern: "**"})
	alike(t, "the rules, behind an append", r, l, fewPaths())
}

// Rules of several texts, made and asked in turn, don't touch one another.
func TestP11_2RulesBesideOneAnother(t *testing.T) {
	given := manyRules(9, 30)
	made := make([]*Rules, len(given))
	for i, text := range given {
		made[i] = parsed(t, text)
	}
	for range 2 {
		for i, text := range given {
			l, _, _ := plainParse(text)
			alike(t, text, made[i], l, fewPaths())
			alike(t, text, made[i].Mirror(), l.mirror(), fewPaths())
		}
	}
	scrawl(None().List())
	alike(t, "None", None(), nil, fewPaths())
}

// Rules never change: they may be asked by many at once.
func TestP11_8AtOnce(t *testing.T) {
	text := "skip a\nprefer a b\nskip a/**/b\nprefer b *\nprefer a b/*"
	l, _, _ := plainParse(text)
	r := parsed(t, text)
	var group sync.WaitGroup
	wrong := make([]bool, 8)
	for i := range wrong {
		group.Go(func() {
			for _, p := range manyPaths() {
				m := r.Mirror()
				if r.Skip(p) != l.skip(p) || m.Prefer(p) != l.mirror().prefer(p) || r.Text() != l.text() || !slices.Equal(r.List(), []api.Rule(l)) {
					wrong[i] = true
				}
				scrawl(r.List())
			}
		})
	}
	group.Wait()
	want(t, "someone saw another thing", slices.Contains(wrong, true), false)
}
