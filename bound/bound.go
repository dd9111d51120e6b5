// Package bound: which numbers may be.
package bound

import "quorate/api"

// IsNode: is a number one of a node?
func IsNode(n int) bool {
	return 1 <= n && n <= api.MaxNode
}

// AreRising: are these all nodes, rising, none twice?
func AreRising(nodes []int) bool {
	for i, n := range nodes {
		if !IsNode(n) || i > 0 && nodes[i-1] >= n {
			return false
		}
	}
	return true
}

// AreNumbers: are these all from 0 to MaxNumber?
func AreNumbers(l ...int) bool {
	return areFrom(0, l)
}

// AreCounts: are these all from 1 to MaxNumber?
func AreCounts(l ...int) bool {
	return areFrom(1, l)
}

func areFrom(least int, l []int) bool {
	for _, n := range l {
		if n < least || n > api.MaxNumber {
			return false
		}
	}
	return true
}
