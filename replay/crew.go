package replay

import (
	"sync"
	"sync/atomic"

	"reclaim/api"
	"reclaim/machine"
	"reclaim/pool"
)

// crew is a machine whose threads are goroutines. Just one of them has the turn at a time: it makes its move, and hands
// the turn on to the thread of the next one.
type crew struct {
	guard   sync.Mutex // of the machine, which all threads write
	machine *machine.Machine
	moves   []api.Move
	until   api.Answer      // with the first call that ends so no more moves are made
	made    atomic.Int64    // how many moves were made
	turns   []chan api.Move // of each thread
	end     chan struct{}   // closed when no turns are to come
	ending  sync.Once
	threads sync.WaitGroup
}

// play runs a script that may be, up to the first call's end that answers so: how many moves were made.
func play(config api.Config, moves []api.Move, until api.Answer) (api.Run, int) {
	m, _ := pool.New(config)
	c := &crew{machine: m, moves: moves, until: until, end: make(chan struct{})}
	for range config.Threads {
		// There is room for a turn, since a thread that makes the next move too hands the turn on to itself.
		c.turns = append(c.turns, make(chan api.Move, 1))
	}
	c.threads.Add(len(c.turns))
	for _, turns := range c.turns {
		go c.thread(turns)
	}
	c.handOn()
	c.threads.Wait()
	return m.Run(), int(c.made.Load())
}

// thread waits for its turns, and makes its moves, till the end.
func (c *crew) thread(turns chan api.Move) {
	defer c.threads.Done()
	for {
		select {
		case mv := <-turns:
			c.turn(mv)
		case <-c.end:
			return
		}
	}
}

// turn makes a thread's move, and lets the others go on, or come to the end.
func (c *crew) turn(mv api.Move) {
	if c.move(mv) {
		c.leave()
		return
	}
	c.handOn()
}

// handOn gives the turn to the thread of the next move. Moves of threads that there aren't are nobody's: they are made
// on the way.
func (c *crew) handOn() {
	for _, mv := range c.moves[c.made.Load():] {
		if 0 <= mv.Thread && mv.Thread < len(c.turns) {
			c.turns[mv.Thread] <- mv
			return
		}
		c.move(mv)
	}
	c.leave()
}

// leave lets all threads come to the end.
func (c *crew) leave() {
	c.ending.Do(func() { close(c.end) })
}

// move makes a move, and tells whether a call has ended with it as is waited for.
func (c *crew) move(mv api.Move) bool {
	c.guard.Lock()
	defer c.guard.Unlock()
	c.machine.Move(mv)
	now := int(c.made.Add(1)) - 1
	call, began := c.machine.Call(mv.Thread)
	return began && call.End == now && call.Answer == c.until
}
