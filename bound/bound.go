// Package bound tells whether numbers lie between bounds, for all layers alike.
package bound

// In tells whether n is from low to high, both of them counted.
func In(n, low, high int) bool { return low <= n && n <= high }
