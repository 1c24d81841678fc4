package lex

import (
	"slices"
	"strings"
)

// from tells bytes from first to last.
func from(first, last byte) func(byte) bool {
	return func(b byte) bool { return first <= b && b <= last }
}

// among tells the bytes of all.
func among(all string) func(byte) bool {
	return func(b byte) bool { return strings.IndexByte(all, b) >= 0 }
}

// either tells bytes that one of several functions tells.
func either(several ...func(byte) bool) func(byte) bool {
	return func(b byte) bool {
		return slices.ContainsFunc(several, func(is func(byte) bool) bool { return is(b) })
	}
}

// not tells all other bytes.
func not(is func(byte) bool) func(byte) bool {
	return func(b byte) bool { return !is(b) }
}
