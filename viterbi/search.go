package viterbi

import (
	"cmp"
	"slices"

	"perigee/convol"
)

const (
	// byteBits is the number of bits of a byte.
	byteBits = 8
	// tail is the number of bits 0 behind a message.
	tail = 6
	// rate is the number of symbols of a step.
	rate = 2
	// states is the number of states of the encoder.
	states = 64
	// choices is the number of steps from a state, one for each bit.
	choices = 2
)

// step is what the encoder does with a bit.
type step struct{ next, first, second int }

// steps contains the steps from each state with each bit.
type steps [states][choices]step

// allSteps returns the steps of the encoder.
func allSteps() steps {
	var all steps
	for state := range all {
		for bit := range all[state] {
			next, first, second := convol.Step(state, bit)
			all[state][bit] = step{next, first, second}
		}
	}
	return all
}

// survivor is the best way from a state to the end of the message: the bit with which it begins, and the sum of its symbols.
type survivor struct{ bit, sum int }

// compare returns a negative number if the way s is better than the way other from the same state.
// Of two ways with the same sum the one with the bit 0 is better, whatever comes behind: it belongs to the lesser message.
func (s survivor) compare(other survivor) int {
	return cmp.Or(cmp.Compare(other.sum, s.sum), cmp.Compare(s.bit, other.bit))
}

// search returns for each step but those of the tail the bits of the survivors of all states, and the sum of the best message.
//
// It goes from the last step to the first one: then a tie of two ways from a state is decided by their first bits. In the other direction two ways that meet in a state would have to be compared as whole messages.
func search(soft []int) ([][states]byte, int) {
	all := allSteps()
	// Behind the last step there is nothing to be added, in any state: the bits 0 of the tail lead to the state 0 from all of them.
	var behind, ahead [states]survivor
	bits := make([][states]byte, len(soft)/rate-tail)
	for at := len(soft)/rate - 1; at >= 0; at-- {
		free := choices
		if at >= len(bits) {
			free = 1
		}
		for state := range states {
			ahead[state] = best(all[state][:free], soft[rate*at:], &behind)
		}
		copy(behind[:], ahead[:])
		if at < len(bits) {
			bits[at] = firstBits(&behind)
		}
	}
	return bits, behind[0].sum
}

// best returns the survivor of a state, of which the steps that are allowed are given. The soft values of its step come first; behind it the survivors go on.
func best(from []step, soft []int, behind *[states]survivor) survivor {
	var ways [choices]survivor
	for bit, s := range from {
		ways[bit] = survivor{bit: bit, sum: s.first*soft[0] + s.second*soft[1] + behind[s.next].sum}
	}
	return slices.MinFunc(ways[:len(from)], survivor.compare)
}

// firstBits returns the bits with which survivors begin.
func firstBits(all *[states]survivor) [states]byte {
	var bits [states]byte
	for state, s := range all {
		bits[state] = byte(s.bit)
	}
	return bits
}

// follow returns the message of n bytes whose bits are those of the survivors, from the state 0 on.
func follow(bits [][states]byte, n int) string {
	data := make([]byte, n)
	state := 0
	for i := range bits {
		bit := bits[i][state]
		data[i/byteBits] = data[i/byteBits]<<1 | bit
		state, _, _ = convol.Step(state, int(bit))
	}
	return string(data)
}
