package run

import (
	"fmt"
	"testing"

	"twine/api"
)

// This file: runs during which users edit, calls fail, the clock ticks, the power falls and somebody cancels, by chance, each step held against the plain run's and against the promises about the whole.

// meddle does something between two steps.
func (u author) meddle(q *pair) {
	v := u.r.Intn(2)
	switch n := u.r.Intn(40); {
	case n < 22:
		q.tryEdit(v, u.edit(q.w, v))
	case n < 30:
		q.tick()
	case n < 34:
		q.rig(u.r.Intn(3), u.r.Intn(12), u.r.Intn(3), u.r.Intn(600), u.rarely(2))
	case n < 35:
		names, keep := [3]int{u.r.Intn(9), u.r.Intn(9), u.r.Intn(4)}, []int{u.r.Intn(700), u.r.Intn(3), 9999}
		q.fall(names, [3][]int{keep, keep, keep})
	case n < 37:
		q.cancel()
	case n < 38:
		q.forget()
	default:
		q.beginBy(u.rules(q.t))
	}
}

// script: some runs, between whose steps much or little happens.
func (u author) script(q *pair) {
	for i := range 2 + u.r.Intn(3) {
		for range u.r.Intn(5) {
			v := u.r.Intn(2)
			q.tryEdit(v, u.edit(q.w, v))
		}
		if u.rarely(8) {
			q.forget()
		}
		if u.rarely(2) {
			q.tick()
		}
		q.what = fmt.Sprintf("%s, run %d", q.t.Name(), i)
		q.beginBy(u.rules(q.t))
		often := u.one(3, 8, 30, 1000)
		for q.x.Status().Phase != api.DidNothing {
			if u.rarely(often) {
				u.meddle(q)
			}
			q.do()
		}
	}
}

func TestP19_3Scripts(t *testing.T) {
	t.Parallel()
	told := map[string]int{}
	for seed := range 1500 {
		u := authorOf(seed)
		p := u.plot(t)
		if u.rarely(8) {
			u.odd(t, &p)
		}
		if u.rarely(8) {
			u.crowded(&p)
		}
		t.Run(fmt.Sprint(seed), func(t *testing.T) {
			q := paired(t, p.world(t, u), p.most).counted()
			u.script(q)
			for x, n := range q.told {
				told[x] += n
			}
		})
	}
	for _, x := range []string{
		"load", "clean", "scan", "plan", "look", "overtaken", "stage", "put", "away", "failed", "sure", "save", "end", "nothing",
		"bad 62", "bad 64", "bad 97", "bad 100", "bad 192", "fault 92", "fault 96", "fault 99", "failed 92", "failed 99", "sure 92", "sure 221",
	} {
		if told[x] < 5 {
			t.Errorf("but %d times %s", told[x], x)
		}
	}
}
