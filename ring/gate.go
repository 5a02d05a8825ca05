package ring

import "reclaim/api"

// Addresses. The cells come last, each with its turn and its value.
const (
	putsAddr  = 0
	picksAddr = 1
	cellsAddr = 2
	cellWords = 2
)

// size is how many words the memory has.
func size(c api.Ring) int {
	return cellsAddr + cellWords*c.Cells
}

func turnAddr(cell int) int {
	return cellsAddr + cellWords*cell
}

func valueAddr(cell int) int {
	return turnAddr(cell) + 1
}

// place is where a call goes on: just ahead of an access.
type place int

const (
	over        place = iota // the call has ended
	loadCounter              // which ticket is the next one
	loadTurn                 // whether the turn of the ticket's cell has come
	swapCounter              // get the ticket
	storeValue               // what is put
	loadValue                // what is picked
	storeTurn                // hand the cell on
)

// gate is what the calls of one op have in common: where they get their tickets, and what they do with them.
type gate struct {
	counter int            // the address of how many tickets were given
	opens   uint64         // how far above the ticket the turn is that a call waits for
	leaves  uint64         // how far above it the turn is that a call leaves
	refusal api.AnswerKind // the answer of a call whose turn is still to come
	use     place          // what a call does with the cell's value
}

// putGate: a turn that is the ticket says that the cell is free for this put, and one above it that the
// pick with the same ticket may go on.
func putGate() gate {
	return gate{counter: putsAddr, opens: 0, leaves: 1, refusal: api.AnswerFull, use: storeValue}
}

// pickGate: behind a pick the cell is free for the put that comes to it next, once round the ring.
func pickGate(c api.Ring) gate {
	return gate{counter: picksAddr, opens: 1, leaves: uint64(c.Cells), refusal: api.AnswerEmpty, use: loadValue}
}
