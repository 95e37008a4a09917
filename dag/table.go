package dag

// table is places by hashes, in buckets, of which there are as many as a power of two.
type table struct {
	hashes  []uint64 // by place
	buckets [][]int
}

func newTable() *table {
	const first = 16
	return &table{buckets: make([][]int, first)}
}

// add gives the next place to a hash.
func (t *table) add(hash uint64) int {
	place := len(t.hashes)
	t.hashes = append(t.hashes, hash)
	if len(t.hashes) > len(t.buckets) {
		t.double()
	} else {
		t.put(place)
	}
	return place
}

// double lays all places anew, in twice as many buckets.
func (t *table) double() {
	t.buckets = make([][]int, 2*len(t.buckets))
	for place := range t.hashes {
		t.put(place)
	}
}

func (t *table) put(place int) {
	at := t.at(t.hashes[place])
	t.buckets[at] = append(t.buckets[at], place)
}

// at tells which bucket is a hash's.
func (t *table) at(hash uint64) int { return int(hash % uint64(len(t.buckets))) }

// first gives the first place that has a hash and of which more is so; false: there is none.
func (t *table) first(hash uint64, is func(place int) bool) (int, bool) {
	for _, place := range t.buckets[t.at(hash)] {
		// Most of a bucket goes by its hashes alone, without a look at what stands there.
		if t.hashes[place] == hash && is(place) {
			return place, true
		}
	}
	return 0, false
}
