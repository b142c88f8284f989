package scan

import (
	"fmt"
	"math"
	"runtime"
	"testing"
	"time"

	"twine/api"
	"twine/world"
)

// crews: numbers of workers, such as there can't be too.
var crews = []int{math.MinInt, -1, 0, 1, 2, 3, 8, 9, 1000, math.MaxInt}

// busy: a volume with files of all sizes, links, what is let be, what is quick.
func busy(t testing.TB, v int) (*world.World, string) {
	l := []api.Thing{dirAt("d", 7, 1, 1), dirAt("d/e", 5, 2, 1), linkAt("d/l", text(1000)[1:100], 3, 1), fileAt("d/x.o", 1, "o", 4, 1), dirAt(".twine", 7, 5, 1)}
	for i, size := range []int{0, 1, 511, 512, 513, 1024, 1025, 3000} {
		l = append(l, fileAt(fmt.Sprintf("d/f%d", i), i, text(size), 10+i, 1+i%6), fileAt(fmt.Sprintf("g%d", i), i, text(size+1), 30+i, 1+i%6))
	}
	return worldOf(t, v, 6, l...), "skip *.o"
}

// Run with each number of workers and a cancel of each number of steps: as so many Steps.
func TestP12_5AsManySteps(t *testing.T) {
	for v := range 3 {
		w, text := busy(t, v)
		r, o := ruled(t, text), first(t)
		all := 0
		for s := New(w.Copy(), v, r, o); s.Step(); {
			all++
		}
		for i, workers := range crews {
			for steps := range all + 3 {
				if steps%3 != i%3 && steps < all-1 {
					continue // each number of steps with some crews is enough
				}
				what := fmt.Sprintf("volume %d, %d workers, %d steps of %d", v, workers, steps, all)
				u := w.Copy()
				u.Rig(v, 60, 2, 0, true)
				s, model := New(u, v, r, o), newPlain(u.Copy(), v, r, o)
				done := 0
				for done < steps && model.step() {
					done++
				}
				want(t, what, s.Run(NewCancel(steps), workers), done)
				held(t, what, s, u, model)
			}
		}
	}
}

// A cancel below 0 allows any number; at the end a Run does nothing.
func TestP12_5AnyNumber(t *testing.T) {
	for _, steps := range []int{-1, -2, math.MinInt, math.MaxInt, 1000} {
		for _, workers := range crews {
			w, text := busy(t, api.A)
			s, model := New(w, api.A, ruled(t, text), first(t)), newPlain(w.Copy(), api.A, ruled(t, text), first(t))
			done := 0
			for model.step() {
				done++
			}
			c := NewCancel(steps)
			what := fmt.Sprintf("%d steps, %d workers", steps, workers)
			want(t, what, s.Run(c, workers), done)
			held(t, what, s, w, model)
			want(t, what+", again", s.Run(c, workers), 0)
			held(t, what+", again", s, w, model)
			want(t, what+": a step", s.Step(), false)
		}
	}
}

// One cancel for several Runs, of one scan and of two: so many steps in all; a Run at the end spends none.
func TestP12_5OneCancel(t *testing.T) {
	w := exampled(t, 3)
	r, o := ruled(t, "skip *.o"), first(t)
	for steps := range 13 {
		c := NewCancel(steps)
		s, u := New(w, api.A, r, o), New(w, api.A, r, o)
		a := s.Run(c, 2)
		want(t, "the first scan", a, min(steps, 5))
		want(t, "the first scan, again", s.Run(c, 2), 0)
		b := u.Run(c, 2)
		want(t, "the second scan", b, min(steps-a, 5))
		want(t, "an empty volume", New(w, api.B, r, o).Run(c, 2), min(steps-a-b, 1))
		want(t, "the second scan, again", u.Run(c, 2), 0)
	}
}

func TestP12_5Stop(t *testing.T) {
	for _, steps := range []int{-1, 0, 1, 3, 99, math.MaxInt, math.MinInt} {
		w := exampled(t, 3)
		r, o := ruled(t, "skip *.o"), first(t)
		s, model := New(w, api.A, r, o), newPlain(w.Copy(), api.A, r, o)
		c := NewCancel(steps)
		c.Stop()
		want(t, "stopped ahead", s.Run(c, 2), 0)
		held(t, "stopped ahead", s, w, model)
		c.Stop()
		want(t, "stopped twice", s.Run(c, 2), 0)

		c = NewCancel(steps)
		b := New(w, api.B, r, o)
		n := b.Run(c, 2)
		want(t, "of the empty volume", n, map[bool]int{true: 0, false: 1}[steps == 0])
		c.Stop()
		want(t, "stopped behind a Run", s.Run(c, 2), 0)
		held(t, "stopped behind a Run", s, w, model)
		want(t, "another cancel", s.Run(NewCancel(2), 2), 2)
		model.step()
		model.step()
		held(t, "another cancel", s, w, model)
	}
}

// Stop while a Run goes on: it ends, and stands as behind as many Steps as it answers.
func TestP12_5StopMeanwhile(t *testing.T) {
	for i := range 20 {
		w, rule := busy(t, api.A)
		r, o := ruled(t, rule), first(t)
		s, model := New(w, api.A, r, o), newPlain(w.Copy(), api.A, r, o)
		c := NewCancel(-1)
		stopped := make(chan bool)
		go func() {
			time.Sleep(time.Duration(i*10) * time.Microsecond)
			c.Stop()
			close(stopped)
		}()
		n := s.Run(c, 1+i%8)
		<-stopped
		for range n {
			model.step()
		}
		held(t, fmt.Sprintf("%d steps", n), s, w, model)
		for s.Step() {
			model.step()
		}
		held(t, "the rest", s, w, model)
	}
}

// Steps and Runs may follow one another in any way, in the middle of a file too.
func TestP12_5MixedWithSteps(t *testing.T) {
	for every := 1; every <= 7; every++ {
		for _, workers := range []int{0, 1, 3, 8, 9} {
			w, rule := busy(t, api.B)
			r, o := ruled(t, rule), first(t)
			s, model := New(w, api.B, r, o), newPlain(w.Copy(), api.B, r, o)
			for i, ended := 0, false; !ended; i++ {
				want(t, "a step", s.Step(), model.step())
				held(t, "behind a Step", s, w, model)
				n := 0
				for n < (i*every)%5 && model.step() {
					n++
				}
				want(t, "a Run", s.Run(NewCancel((i*every)%5), workers), n)
				held(t, "behind a Run", s, w, model)
				_, more := model.next()
				ended = !more
			}
		}
	}
}

// quiet tells how many goroutines there are, once those that are about to end have ended.
func quiet() int {
	n := runtime.NumGoroutine()
	for range 20 {
		time.Sleep(time.Millisecond)
		n = min(n, runtime.NumGoroutine())
	}
	return n
}

// All workers have ended when Run has answered, whatever it did.
func TestP12_5NoWorkerIsLeft(t *testing.T) {
	before := quiet()
	for _, workers := range crews {
		for _, steps := range []int{0, 1, 5, -1} {
			w, rule := busy(t, api.A)
			s := New(w, api.A, ruled(t, rule), first(t))
			for range 5 {
				s.Run(NewCancel(steps), workers)
				s.Run(NewCancel(0), workers)
			}
		}
	}
	want(t, "goroutines", quiet(), before)
}

// So many workers are at work as were asked for, 1 to 8, and each piece is hashed, whoever takes it.
func TestP12_5Workers(t *testing.T) {
	for _, workers := range crews {
		before := quiet()
		c := gather(workers)
		want(t, fmt.Sprintf("%d workers", workers), runtime.NumGoroutine()-before, min(max(workers, 1), 8))
		var sums []*[32]byte
		for i := range 300 {
			sums = append(sums, c.hash([]byte(text(i))))
		}
		c.end()
		for i, x := range sums {
			want(t, "a sum", *x, *here([]byte(text(i))))
		}
		want(t, "goroutines", quiet(), before)
	}
}

// crewOf does a Run, and tells how many goroutines it was seen to have beside its own.
func crewOf(s *Scan, workers int) int {
	before := quiet()
	ended := make(chan bool)
	go func() {
		s.Run(NewCancel(-1), workers)
		close(ended)
	}()
	most := 0
	for {
		select {
		case <-ended:
			return most - before - 1
		case <-time.After(100 * time.Microsecond):
			most = max(most, runtime.NumGoroutine())
		}
	}
}

// While a Run goes on so many workers are there beside it: never more, and, if one looks often enough, not fewer.
func TestP12_5WorkersOfARun(t *testing.T) {
	var l []api.Thing
	for i := range 40 {
		l = append(l, fileAt(fmt.Sprint(i), 7, text(100000), 1+i, 1))
	}
	w := worldOf(t, api.A, 2, l...)
	r, o := ruled(t, ""), first(t)
	for _, workers := range []int{-1, 1, 3, 8, 9} {
		most := 0
		for i := 0; i < 50 && most != min(max(workers, 1), 8); i++ {
			most = max(most, crewOf(New(w, api.A, r, o), workers))
		}
		want(t, fmt.Sprintf("%d workers", workers), most, min(max(workers, 1), 8))
	}
}
