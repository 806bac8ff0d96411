// Package number: numbers in texts, as chapters 1 and 3 have them.
package number

import "strconv"

// Read: the number that s says, and whether it says one: just what strconv.Itoa writes is one. Atoi alone would take "+1" and "01", too.
func Read(s string) (int, bool) {
	n, err := strconv.Atoi(s)
	if err != nil || strconv.Itoa(n) != s {
		return 0, false
	}
	return n, true
}
