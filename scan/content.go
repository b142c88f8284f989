package scan

import (
	"twine/api"
	"twine/sum"
)

// content: a file or a link that is read, or was.
type content struct {
	at    place
	value api.Value // without its digest
	told  api.Mark  // the number and the stamp of a file's first step
	mark  api.Mark  // the one that it gets
	off   int       // so many bytes were read
	sums  *sum.Pieces
	late  []*[32]byte // sums that come behind these: a worker may be reckoning them
}

func (f *content) add(late *[32]byte) { f.late = append(f.late, late) }

// reckon takes the sums in that came late; all workers have ended.
func (f *content) reckon() {
	for _, x := range f.late {
		f.sums.Add(*x)
	}
	f.late = nil
}

// settle tells what was read whole, and lets go of what no step needs any more; all workers have ended.
func (s *Scan) settle() {
	for _, f := range s.read {
		f.reckon()
		f.value.Sum = f.sums.Sum()
		s.tell(f.at, f.value, f.mark)
		if f.value.Kind == api.File {
			s.things[f.at] = thing{mark: f.told}
		}
	}
	s.read = nil
	if s.file != nil {
		s.file.reckon()
	}
	if s.ended() {
		s.world, s.rules, s.old = nil, nil, nil
	}
}
