package table

import "rolodex/api"

const (
	bitsPerKey = 10
	probes     = 7
	leastBits  = 64
)

// filterOf makes a Bloom filter of the items' keys.
func filterOf(l []api.Item) []byte {
	keys := 0
	for i, x := range l {
		if i == 0 || l[i-1].Key != x.Key {
			keys++
		}
	}
	if keys == 0 {
		return nil
	}
	filter := make([]byte, (max(keys*bitsPerKey, leastBits)+7)/8)
	for i, x := range l {
		if i > 0 && l[i-1].Key == x.Key {
			continue
		}
		for _, bit := range bitsOf(x.Key, len(filter)) {
			filter[bit/8] |= 1 << (bit % 8)
		}
	}
	return filter
}

func filterHas(filter []byte, key string) bool {
	if len(filter) == 0 {
		return false
	}
	for _, bit := range bitsOf(key, len(filter)) {
		if filter[bit/8]>>(bit%8)&1 == 0 {
			return false
		}
	}
	return true
}

// bitsOf tells a key's bits in a filter of so many bytes.
func bitsOf(key string, size int) [probes]int {
	h := uint64(14695981039346656037)
	for i := range len(key) {
		h = (h ^ uint64(key[i])) * 1099511628211
	}
	// The hash's low bits alone are weak on short keys: mix the high ones in.
	h ^= h >> 29
	h *= 0xBF58476D1CE4E5B9
	h ^= h >> 32
	step := h>>33 | 1
	var l [probes]int
	for i := range l {
		l[i] = int(h % uint64(size*8))
		h += step
	}
	return l
}
