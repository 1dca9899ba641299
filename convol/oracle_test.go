package convol_test

import (
	"fmt"
	"math/rand"
	"strings"

	"perigee/api"
)

// This file: the definitions of the chapter in texts of the digits 0 and 1, and the messages that the tests use.

// The digits of the two numbers with which parities are taken, 171 and 133 octal.
const (
	digits1 = "1111001"
	digits2 = "1011011"
)

// odd returns the parity of a register and a number, digit by digit.
func odd(register, number string) int {
	n := 0
	for i := range number {
		if register[i] == '1' && number[i] == '1' {
			n++
		}
	}
	return n % 2
}

// wantStep returns a step by the definition. The newest bit of a state is its first digit.
func wantStep(state, bit int) (int, int, int) {
	register := fmt.Sprintf("%d%06b", bit, state)
	next := 0
	fmt.Sscanf(register[:6], "%b", &next)
	return next, odd(register, digits1), 1 - odd(register, digits2)
}

// messageDigits returns the bits of a message and of its tail.
func messageDigits(data string) string {
	var l strings.Builder
	for i := range len(data) {
		fmt.Fprintf(&l, "%08b", data[i])
	}
	return l.String() + "000000"
}

// wantEncode returns the symbols of a message. The digits of the register are the seven last ones that came in, the newest one first.
func wantEncode(data string) (string, api.Errno) {
	if len(data) > 1100 {
		return "", api.ErrLong
	}
	var symbols []byte
	register := "0000000"
	for _, c := range messageDigits(data) {
		register = string(c) + register[:6]
		symbols = append(symbols, byte(odd(register, digits1)), byte(1-odd(register, digits2)))
	}
	return string(symbols), api.OK
}

// anyMessage returns n bytes.
func anyMessage(r *rand.Rand, n int) string {
	b := make([]byte, n)
	r.Read(b)
	return string(b)
}

// xor returns the exclusive or of strings of the same length.
func xor(first string, others ...string) string {
	b := []byte(first)
	for _, s := range others {
		for i := range b {
			b[i] ^= s[i]
		}
	}
	return string(b)
}

// differences returns the number of places in which two strings of the same length differ.
func differences(a, b string) int {
	return len(a) - strings.Count(xor(a, b), "\x00")
}
