// Package nums is layer 1: see shared/doc/01-nums.md.
package nums

import (
	"math"
	"strconv"
	"strings"
)

// The most digits that a number's text has, without and with a sign that may stand ahead.
const (
	maxDigits       = 20
	maxSignedDigits = 19
)

// Parse is the number that s says (A1).
func Parse(s string) (uint64, bool) {
	// Noughts ahead do not make a number larger, so its size alone says nothing about too many digits.
	if len(s) > maxDigits {
		return 0, false
	}
	n, err := strconv.ParseUint(s, 10, 64)
	if err != nil {
		return 0, false
	}
	return n, true
}

// Signed is the number that s says, perhaps one below 0 (A1).
func Signed(s string) (int64, bool) {
	digits, negative := strings.CutPrefix(s, "-")
	if len(digits) > maxSignedDigits {
		return 0, false
	}
	n, ok := Parse(digits)
	if !ok {
		return 0, false
	}
	if negative {
		return below(n)
	}
	if n > math.MaxInt64 {
		return 0, false
	}
	return int64(n), true
}

// below is 0 less n, if that goes.
func below(n uint64) (int64, bool) {
	if n > -math.MinInt64 {
		return 0, false
	}
	// 2^63 has no int64 of its own, so the sign is turned before the conversion.
	return int64(-n), true
}

// Text is n's digits (A1).
func Text(n uint64) string { return strconv.FormatUint(n, 10) }

// Add is the text of s's number and d, modulo 2^64 (A2).
func Add(s string, d uint64) (string, bool) {
	n, ok := Parse(s)
	if !ok {
		return "", false
	}
	return Text(n + d), true
}

// Sub is the text of s's number less d, which does not go below 0 (A2).
func Sub(s string, d uint64) (string, bool) {
	n, ok := Parse(s)
	if !ok {
		return "", false
	}
	return Text(n - min(n, d)), true
}
