package dag

import "collator/api"

// Hash gives a term's hash.
func Hash(t api.Term) uint64 {
	const start = 0xCBF29CE484222325
	hash := mixed(start, t.Op, t.Fun, len(t.Kids))
	hash = mixed(hash, t.Kids...)
	for i := range len(t.Num) {
		hash = mixed(hash, int(t.Num[i]))
	}
	return hash
}

// mixed gives a hash with more numbers in it.
func mixed(hash uint64, numbers ...int) uint64 {
	for _, n := range numbers {
		// Numbers without a sign wrap round, so all of this is modulo 2^64.
		hash = (hash ^ uint64(n)) * 0x100000001B3
	}
	return hash
}
