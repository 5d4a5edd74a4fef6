// Package ver has versions, ranges of them, and conditions over facts and settings (doc/01-ver.md).
package ver

import (
	"strings"

	"outfitter/api"
)

// Limits of G6 that package api does not have.
const (
	maxPart  = 40
	maxValue = 1000
)

// IsName reports whether s is a name.
func IsName(s string) bool {
	if s == "" || len(s) > api.MaxName {
		return false
	}
	return isSmall(s[0]) && all(s, func(c byte) bool {
		return isSmall(c) || isDigit(c) || c == '-' || c == '.'
	})
}

// IsPath reports whether s is a path, or a key, which has the same form.
func IsPath(s string) bool {
	if len(s) > api.MaxPath {
		return false
	}
	for _, part := range strings.Split(s, "/") {
		if !isPart(part) {
			return false
		}
	}
	return true
}

// IsValue reports whether s is a value; an empty one is.
func IsValue(s string) bool {
	return len(s) <= maxValue && all(s, func(c byte) bool { return c >= 32 && c <= 126 })
}

func isPart(s string) bool {
	if s == "" || len(s) > maxPart || s == "." || s == ".." {
		return false
	}
	return all(s, func(c byte) bool {
		return isSmall(c) || c >= 'A' && c <= 'Z' || isDigit(c) || c == '-' || c == '.' || c == '_'
	})
}

func isSmall(c byte) bool { return c >= 'a' && c <= 'z' }

func isDigit(c byte) bool { return c >= '0' && c <= '9' }

func isBlank(c byte) bool { return c == 9 || c == 32 }

// isNumber reports whether s is digits without a superfluous zero ahead.
func isNumber(s string) bool {
	return s != "" && all(s, isDigit) && (s == "0" || s[0] != '0')
}

// all reports whether all bytes of s are so.
func all(s string, so func(byte) bool) bool {
	for i := range len(s) {
		if !so(s[i]) {
			return false
		}
	}
	return true
}
