package scan

import (
	"sync"

	"twine/sum"
)

// maxWorkers: more of them are never at work.
const maxWorkers = 8

// hasher takes a piece, and tells where its sum will stand.
type hasher func(piece []byte) *[32]byte

// here reckons a sum at once.
func here(piece []byte) *[32]byte {
	x := sum.SHA(piece)
	return &x
}

// crew: workers that reckon sums beside one another.
type crew struct {
	jobs    chan job
	done    chan struct{}
	workers sync.WaitGroup
}

// job: a piece, and where its sum is to stand; no two have that in common.
type job struct {
	piece []byte
	sum   *[32]byte
}

func gather(workers int) *crew {
	c := &crew{jobs: make(chan job), done: make(chan struct{})}
	for range min(max(workers, 1), maxWorkers) {
		c.workers.Add(1)
		go c.work()
	}
	return c
}

func (c *crew) work() {
	defer c.workers.Done()
	for {
		select {
		case j := <-c.jobs:
			*j.sum = sum.SHA(j.piece)
		case <-c.done:
			return
		}
	}
}

// hash hands a piece to a worker. Its sum stands there once the crew has ended.
func (c *crew) hash(piece []byte) *[32]byte {
	j := job{piece, new([32]byte)}
	c.jobs <- j
	return j.sum
}

// end has the workers end. No job is left out: the channel has no room, so that each one was taken by a worker, who does it ahead of looking at done.
func (c *crew) end() {
	close(c.done)
	c.workers.Wait()
}
