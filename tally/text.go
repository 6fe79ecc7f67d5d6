package tally

import (
	"slices"
	"strconv"
	"strings"
)

// Digits are read and written in chunks, as many as fit into a word.
const (
	chunkDigits = 19
	chunkBase   = 10_000_000_000_000_000_000
)

// splitSign returns the digits of s, and whether there is a minus sign before them; ok is false if s is not the canonical form of an integer.
func splitSign(s string) (digits string, negative, ok bool) {
	digits, negative = strings.CutPrefix(s, "-")
	if !onlyDigits(digits) || digits[0] == '0' && s != "0" {
		return "", false, false
	}
	return digits, negative, true
}

func onlyDigits(s string) bool {
	for i := range len(s) {
		if s[i] < '0' || s[i] > '9' {
			return false
		}
	}
	return s != ""
}

// readDigits returns the number that has these digits, whatever its size.
func readDigits(digits string) []uint64 {
	words := make([]uint64, 0, len(digits)/chunkDigits+1)
	size := (len(digits)-1)%chunkDigits + 1
	for len(digits) > 0 {
		chunk, _ := strconv.ParseUint(digits[:size], 10, 64)
		words = scale(words, chunkBase, chunk)
		digits = digits[size:]
		size = chunkDigits
	}
	return cut(words)
}

func writeDigits(words []uint64) string {
	if len(words) == 0 {
		return "0"
	}
	var digits []byte
	for len(words) > 0 {
		var chunk uint64
		words, chunk = divideByWord(words, chunkBase)
		for i := 0; i < chunkDigits && (len(words) > 0 || chunk > 0); i++ {
			digits = append(digits, byte('0'+chunk%10))
			chunk /= 10
		}
	}
	slices.Reverse(digits)
	return string(digits)
}
