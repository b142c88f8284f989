package path

import (
	"cmp"
	"slices"
)

// Compare tells the order of two paths: below 0, 0, above 0.
func Compare(a, b string) int {
	for i := range min(len(a), len(b)) {
		if a[i] != b[i] {
			return cmp.Compare(rank(a[i]), rank(b[i]))
		}
	}
	return cmp.Compare(len(a), len(b))
}

// rank puts '/' ahead of all bytes, 0 too: where one piece ends and the other goes on, the one that ends stands ahead.
func rank(b byte) int {
	if b == '/' {
		return -1
	}
	return int(b)
}

// Sorted tells paths in their order.
func Sorted(l []string) []string {
	sorted := make([]string, len(l))
	copy(sorted, l)
	slices.SortFunc(sorted, Compare)
	return sorted
}
