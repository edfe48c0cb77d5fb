// Package testkit has what the tests of several packages need.
package testkit

// Words are all texts of at most n bytes of an alphabet, the shortest first.
func Words(alphabet string, n int) []string {
	last := []string{""}
	all := []string{""}
	for range n {
		var next []string
		for _, w := range last {
			for i := range len(alphabet) {
				next = append(next, w+alphabet[i:i+1])
			}
		}
		all = append(all, next...)
		last = next
	}
	return all
}
