package ver_test

import (
	"strings"
	"testing"

	"outfitter/ver"
)

const (
	small  = "abcdefghijklmnopqrstuvwxyz"
	large  = "ABCDEFGHIJKLMNOPQRSTUVWXYZ"
	digits = "0123456789"
)

// TestP1Bytes tries every byte at the beginning, and behind it.
func TestP1Bytes(t *testing.T) {
	for i := range 256 {
		c := string([]byte{byte(i)})
		inName := strings.Contains(small+digits+"-.", c)
		inPath := strings.Contains(small+large+digits+"-._/", c)
		if got := ver.IsName("a" + c); got != inName {
			t.Errorf("IsName(a %q): %v", c, got)
		}
		if got := ver.IsName(c); got != strings.Contains(small, c) {
			t.Errorf("IsName(%q): %v", c, got)
		}
		if got := ver.IsPath("a" + c + "a"); got != inPath {
			t.Errorf("IsPath(a %q a): %v", c, got)
		}
		if got := ver.IsPath(c); got != (inPath && c != "." && c != "/") {
			t.Errorf("IsPath(%q): %v", c, got)
		}
		if got := ver.IsValue("a" + c); got != (i >= 32 && i <= 126) {
			t.Errorf("IsValue(a %q): %v", c, got)
		}
	}
}

func TestP1Names(t *testing.T) {
	for s, want := range map[string]bool{
		"": false, "a": true, "a-b.c9": true, "a-": true, "a..": true, "z--.": true, "9a": false, "-a": false, ".a": false,
		"aB": false, "a_b": false, "a/b": false, "a b": false, "ä": false, "a\n": false,
		long(40): true, long(41): false,
	} {
		if got := ver.IsName(s); got != want {
			t.Errorf("IsName(%q): %v", s, got)
		}
	}
}

func TestP1Paths(t *testing.T) {
	fives := strings.Repeat("aaaa/", 40)
	for s, want := range map[string]bool{
		"": false, "a": true, "9": true, "_": true, "-": true, ".a": true, "...": true, "a/b/c": true, "A/.b/_-": true,
		".": false, "..": false, "a/.": false, "a/..": false, "./a": false, "../a": false, "a/../b": false, "a/./b": false,
		"/": false, "/a": false, "a/": false, "a//b": false, "a b": false, "a\\b": false, "ä": false,
		long(40): true, long(41): false, "a/" + long(40): true, "a/" + long(41): false, long(41) + "/a": false,
		fives[:199]: true, fives[:198] + "aa": true, fives[:199] + "aa": false, fives + "a": false,
	} {
		if got := ver.IsPath(s); got != want {
			t.Errorf("IsPath(%q): %v", s, got)
		}
	}
}

func TestP1Values(t *testing.T) {
	for s, want := range map[string]bool{
		"": true, " ": true, "~": true, "a \"\\ b": true, "\t": false, "a\n": false, "\x7f": false, "ä": false,
		strings.Repeat(" ", 1000): true, strings.Repeat(" ", 1001): false,
	} {
		if got := ver.IsValue(s); got != want {
			t.Errorf("IsValue(%q): %v", s, got)
		}
	}
}
