package locks

// flagLock is a flag that is swapped to 1 by whoever gets it.
type flagLock struct{}

func (flagLock) acquire(int) work {
	return &seizing{addr: flagAddr, taken: 1}
}

func (flagLock) release(int) work {
	return &storing{addr: flagAddr, word: 0}
}
