package block

import "perigee/api"

// word is a string that may differ from a code block, or from interleaved ones.
type word struct {
	bytes []byte
	// erased tells of each place whether it is.
	erased []bool
}

// newWord returns the word with some erased places.
func newWord(b string, erased []int) word {
	w := word{[]byte(b), make([]bool, len(b))}
	for _, place := range erased {
		w.erased[place] = true
	}
	return w
}

// part returns what belongs to the code block j of interleaved ones.
func (w word) part(j, depth int) word {
	n := len(w.bytes) - api.Parity*depth
	return word{strands(w.bytes, n, j, depth), strands(w.erased, n, j, depth)}
}

// data returns the bytes ahead of the parity bytes.
func (w word) data() string { return string(w.bytes[:len(w.bytes)-api.Parity]) }

// isBlock tells whether a word is a code block.
func (w word) isBlock() bool {
	data := w.data()
	return data+parity(data) == string(w.bytes)
}

// erasures returns the number of erased places.
func (w word) erasures() int {
	n := 0
	for _, is := range w.erased {
		if is {
			n++
		}
	}
	return n
}

// element returns the power of 2 that stands for a place: its exponent is that of x there.
func (w word) element(place int) byte { return power(len(w.bytes) - 1 - place) }

// differences returns the number of places in which two words of the same length differ.
func (w word) differences(other word) int {
	n := 0
	for i, c := range w.bytes {
		if c != other.bytes[i] {
			n++
		}
	}
	return n
}
