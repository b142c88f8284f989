package script

import (
	"fmt"
	"reflect"
	"slices"
	"sync"
	"testing"

	"twine/api"
)

// spoil writes over all that hangs on a step, the spare room too.
func spoil(s api.Step) {
	data := s.Edit.Data[:cap(s.Edit.Data)]
	for i := range data {
		data[i] = '!'
	}
	for _, l := range s.Keep {
		l = l[:cap(l)]
		for i := range l {
			l[i] = -77
		}
	}
}

const manyLists = `file a "f" "abcdefghi" 6
repeat 3
write b "g" "xyz"
append a "h" "0123456789abcdef0"
fall 1 2 3 keep a 1 2 3 keep b 4 5 6 7 8 keep s 9
fall 1 2 3 keep b 1
mkdir a "d" 7
end
write b "g" ""
write b "g" "xyz"
fall 1 2 3 keep a 1 2 3 keep b keep s 9
`

// Each step of an answer is spoilt in turn: no other one is touched, nor another answer.
func TestP20_7NoSharing(t *testing.T) {
	right, _ := plainParse(manyLists)
	other, _ := parseOf(t, manyLists)
	for i := range right {
		l, _ := parseOf(t, manyLists)
		spoil(l[i])
		if len(right[i].Edit.Data) > 0 || len(right[i].Keep[1]) > 0 {
			want(t, "is it spoilt?", alike(l[i:i+1], right[i:i+1]), false)
		}
		l[i] = right[i]
		want(t, fmt.Sprint("the others, behind the spoiling of ", i), alike(l, right), true)
	}
	want(t, "another answer", alike(other, right), true)
	reads(t, manyLists, right...)
}

// The lists of one step don't share any memory either.
func TestP20_7ListsOfAStep(t *testing.T) {
	right, _ := plainParse(manyLists)
	for i := range right {
		for v := range 3 {
			l, _ := parseOf(t, manyLists)
			keep := l[i].Keep[v][:cap(l[i].Keep[v])]
			for j := range keep {
				keep[j] = -77
			}
			l[i].Keep[v] = right[i].Keep[v]
			want(t, fmt.Sprint("the other lists of ", i), alike(l, right), true)
		}
	}
}

// What is appended to a list of an answer, or to the answer, comes to no other one.
func TestP20_7SpareRoom(t *testing.T) {
	right, _ := plainParse(manyLists)
	l, _ := parseOf(t, manyLists)
	other, _ := parseOf(t, manyLists)
	for i := range l {
		_ = append(l[i].Edit.Data, "!!!!!!!!"...)
		for v := range 3 {
			_ = append(l[i].Keep[v], -1, -2, -3, -4)
		}
	}
	_ = append(l, tick(1), tick(2), tick(3))
	want(t, "the answer", alike(l, right), true)
	want(t, "another answer", alike(other, right), true)
}

// roomy: steps whose lists have room behind them.
func roomy(l []api.Step) []api.Step {
	out := make([]api.Step, len(l), len(l)+3)
	for i, s := range l {
		s = emptied(s)
		s.Edit.Data = append(s.Edit.Data, "spare"...)[:len(s.Edit.Data)]
		for v, k := range s.Keep {
			s.Keep[v] = append(k, 11, 12, 13)[:len(k)]
		}
		out[i] = s
	}
	return out
}

// whole: all that hangs on steps, the room behind their lists too.
func whole(l []api.Step) []api.Step {
	out := slices.Clone(l[:cap(l)])
	for i, s := range out {
		out[i].Edit.Data = slices.Clone(s.Edit.Data[:cap(s.Edit.Data)])
		for v, k := range s.Keep {
			out[i].Keep[v] = slices.Clone(k[:cap(k)])
		}
	}
	return out
}

// Print changes nothing of what it is handed, and keeps nothing of it.
func TestP20_9HandedIn(t *testing.T) {
	right, _ := plainParse(manyLists)
	l := roomy(right)
	ahead := whole(l)
	text, _ := printOf(t, l)
	want(t, "are the steps as before?", reflect.DeepEqual(whole(l), ahead), true)
	for _, s := range l {
		spoil(s)
	}
	plain, _ := plainPrint(right)
	want(t, "the text", text, plain)
	bad := append(roomy(right), api.Step{Kind: 77, Edit: api.Edit{Data: []byte("x")}, Keep: [3][]int{{1}, {2}, {3}}})
	ahead = whole(bad)
	_, fault := printOf(t, bad)
	want(t, "a step of no kind", fault, fmt.Sprint("205 at ", len(right)))
	want(t, "are the steps as before?", reflect.DeepEqual(whole(bad), ahead), true)
}

// Calls side by side answer as one alone.
func TestP20_7AtOnce(t *testing.T) {
	right, _ := plainParse(manyLists)
	text, _ := plainPrint(right)
	told := playOf(t, noCaps, longScript)
	var group sync.WaitGroup
	wrong := make([]bool, 8)
	for i := range wrong {
		group.Go(func() {
			for range 20 {
				l, _ := Parse(manyLists)
				back, _ := Print(l)
				s, _ := Setup(noCaps)
				x, _ := Play(noCaps, longScript)
				wrong[i] = wrong[i] || !alike(l, right) || back != text || s.Most != 100 || x != told
				for _, s := range l {
					spoil(s)
				}
			}
		})
	}
	group.Wait()
	want(t, "someone saw another thing", slices.Contains(wrong, true), false)
}

const longScript = `mkdir a "d" 7
file a "d/f" "abc" 6
file b "g" "xyz" 4
tick 1
begin ""
finish
report
show a
show b
write a "g" "12"
begin "skip x"
do 9
fall 2 2 2 keep a 1
show a
show s
begin ""
finish
report
`
