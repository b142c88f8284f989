package scan

import "sync"

// Cancel: it stops a Run.
type Cancel struct {
	lock sync.Mutex // it may be stopped while a Run goes on
	left int        // below 0: as many as one likes
}

// NewCancel makes one that stops behind so many steps; below 0: never by itself.
func NewCancel(steps int) *Cancel { return &Cancel{left: steps} }

// Stop stops it.
func (c *Cancel) Stop() {
	c.lock.Lock()
	defer c.lock.Unlock()
	c.left = 0
}

// allows takes one of the steps that are left, and tells whether there was one.
func (c *Cancel) allows() bool {
	c.lock.Lock()
	defer c.lock.Unlock()
	if c.left > 0 {
		c.left--
		return true
	}
	return c.left < 0
}
