package stage

import (
	"twine/api"
	"twine/sum"
)

// file: a file whose pieces are being laid.
type file struct {
	number int // of the source's: if another one stands there later, nothing of it is read
	off    int // so many bytes are laid
	sums   *sum.Pieces
}

func (s *Stage) bringDir(x thing) api.Errno {
	if e := s.world.Mkdir(s.to, x.target); e != api.OK {
		return e
	}
	return s.world.Chmod(s.to, x.target, x.value.Mode)
}

func (s *Stage) bringLink(x thing) api.Errno {
	target, e := s.world.Target(s.from, x.source)
	if e != api.OK {
		return moved(e)
	}
	if len(target) != x.value.Size || sum.Digest([]byte(target)) != x.value.Sum {
		return api.ErrStageOther
	}
	return s.world.Link(s.to, x.target, target)
}

func (s *Stage) beginFile(x thing) api.Errno {
	told, e := s.world.Stat(s.from, x.source)
	if e != api.OK {
		return moved(e)
	}
	if told.Kind != api.File {
		return api.ErrStageOther
	}
	if e := s.world.Create(s.to, x.target); e != api.OK {
		return e
	}
	s.file = &file{number: told.Number, sums: sum.NewPieces()}
	s.do = (*Stage).fill
	return s.fill(x)
}

// fill lays the file's next piece, if it has one, and ends it behind the last one.
func (s *Stage) fill(x thing) api.Errno {
	if n := min(x.value.Size-s.file.off, api.Piece); n > 0 {
		if e := s.lay(x, n); e != api.OK {
			return e
		}
	}
	if s.file.off < x.value.Size {
		return api.OK
	}
	return s.endFile(x)
}

// lay lays a piece of n bytes.
func (s *Stage) lay(x thing, n int) api.Errno {
	piece, e := s.world.Read(s.from, x.source, s.file.number, s.file.off, n)
	if e != api.OK {
		return moved(e)
	}
	if len(piece) != n {
		return api.ErrStageOther
	}
	if e := s.world.Append(s.to, x.target, piece); e != api.OK {
		return e
	}
	s.file.off += n
	s.file.sums.Add(sum.SHA(piece))
	return api.OK
}

// endFile has a file done whose bytes are all laid, and are the ones that were scanned.
func (s *Stage) endFile(x thing) api.Errno {
	if s.file.sums.Sum() != x.value.Sum {
		return api.ErrStageOther
	}
	s.file = nil
	if e := s.world.Sync(s.to, x.target); e != api.OK {
		return e
	}
	return s.world.Chmod(s.to, x.target, x.value.Mode)
}

// moved tells what an error of the source means: by these four, that somebody changed it.
func moved(e api.Errno) api.Errno {
	switch e {
	case api.ErrWorldNone, api.ErrWorldWay, api.ErrWorldKind, api.ErrWorldOther:
		return api.ErrStageOther
	}
	return e
}
