// Package word tells how shared words are packed, where they lie in a memory, what they are
// called, and what their texts are: see doc/01-word.md.
package word

import "reclaim/api"

// Check tells whether a configuration may be: ErrConfig, if one of its numbers is out of its limits.
func Check(c api.Config) api.Errno {
	may := within(c.Threads, 1, api.MaxThreads) &&
		within(c.Records, 1, api.MaxRecords) &&
		within(c.Hazards, api.MinHazards, api.MaxHazards) &&
		within(c.Retire, 1, api.MaxRetire) &&
		within(c.Cache, 0, api.MaxCache) &&
		within(c.Slots, 1, api.MaxSlots) &&
		within(c.Buckets, 1, api.MaxBuckets)
	if !may {
		return api.ErrConfig
	}
	return api.OK
}

func within(n, least, greatest int) bool {
	return least <= n && n <= greatest
}
