package mcas

// How cells' words are told apart: by their last bits.
const (
	kinds     = 4
	valueKind = 0
	markKind  = 1
	holdKind  = 2
)

// markThreads is how many threads a mark tells apart: its put stands above them.
const markThreads = 16

// thing is what stands in a cell.
type thing interface {
	word() uint64
}

type value int

func (v value) word() uint64 {
	return uint64(v)*kinds + valueKind
}

// hold is the descriptor that holds a cell.
type hold int

func (h hold) word() uint64 {
	return uint64(h)*kinds + holdKind
}

// mark stands where a thread is about to have a descriptor hold a cell: which one, the thread's record tells as
// long as it is of the same put.
type mark struct {
	thread int
	put    uint64
}

func (m mark) word() uint64 {
	return (uint64(m.thread)+markThreads*m.put)*kinds + markKind
}

// thingOf is what a cell's word stands for; nil: nothing.
func thingOf(w uint64) thing {
	rest := w / kinds
	switch w % kinds {
	case valueKind:
		return value(rest)
	case markKind:
		return mark{thread: int(rest % markThreads), put: rest / markThreads}
	case holdKind:
		return hold(rest)
	}
	return nil
}

// How a record is packed: the put, the descriptor, the entry.
const (
	recordEntries = 4
	recordSpan    = 4096 // what a put is times, in a record
)

// record tells of which entry of which descriptor a thread's put is.
type record struct {
	put   uint64
	d     int
	entry int
}

func (r record) word() uint64 {
	return r.put*recordSpan + uint64(r.d)*recordEntries + uint64(r.entry)
}

func recordOf(w uint64) record {
	rest := int(w % recordSpan)
	return record{put: w / recordSpan, d: rest / recordEntries, entry: rest % recordEntries}
}
