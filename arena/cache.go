package arena

import "slices"

// hasRoom tells whether the cache of a thread, which there is, takes one more slot.
func (a *Arena) hasRoom(thread int) bool {
	return len(a.caches[thread]) < a.config.Cache
}

// putLast puts a slot behind a thread's cache, which has room.
func (a *Arena) putLast(thread int, slot int) {
	a.caches[thread] = append(a.caches[thread], slot)
}

// last is the slot that was put last into a thread's cache; none, if that is empty.
func (a *Arena) last(thread int) int {
	if !a.hasThread(thread) || len(a.caches[thread]) == 0 {
		return none
	}
	cache := a.caches[thread]
	return cache[len(cache)-1]
}

// drop lets a slot leave a thread's cache. It stands last there, unless several parts of one thread
// are under way, which no machine makes.
func (a *Arena) drop(thread int, slot int) {
	cache := a.caches[thread]
	if i := slices.Index(cache, slot); i >= 0 {
		a.caches[thread] = slices.Delete(cache, i, i+1)
	}
}
