package block

import (
	"slices"

	"perigee/api"
	"perigee/galois"
)

// decoded returns the data of the code block that is near enough to a word, and the number of places in which they differ.
func (w word) decoded() (string, int, api.Errno) {
	free := api.Parity - w.erasures()
	if free < 0 {
		return "", 0, api.ErrBlock
	}
	// Most words are right, which is seen much faster than what is wrong in others.
	if w.isBlock() {
		return w.data(), 0, api.OK
	}
	for n := range free/2 + 1 {
		if c, ok := w.corrected(n); ok {
			return c.data(), w.differences(c), api.OK
		}
	}
	return "", 0, api.ErrBlock
}

// corrected returns the code block that differs from a word in n places that are not erased. What it returns may differ in fewer of them, but never in more.
func (w word) corrected(n int) (c word, ok bool) {
	defer func() {
		// Equations without a solution: there is no such code block.
		if recover() != nil {
			c, ok = word{}, false
		}
	}()
	syndrome := w.syndrome()
	places := w.doubtful(w.locator(syndrome, n))
	changes := solved(len(places), func(i, j int) byte {
		if j == len(places) {
			return syndrome(i)
		}
		x, _ := galois.Pow(w.element(places[j]), i)
		return x
	})
	c = word{bytes: slices.Clone(w.bytes)}
	for i, place := range places {
		c.bytes[place] ^= changes[i]
	}
	// There were only as many equations as places, and a locator may have roots that are not elements of places.
	return c, c.isBlock()
}

// syndrome returns the function that tells the value of a word at Pow(2, i).
// Since this is 0 for a code block, it is the sum of what the wrong places contribute: the change of the byte times the element of the place to the power of i.
func (w word) syndrome() func(i int) byte {
	p := reversed(string(w.bytes))
	return func(i int) byte { return galois.Eval(p, power(i)) }
}

// locator returns the polynomial of the degree n whose roots are the elements of the n wrong places that are not erased.
func (w word) locator(syndrome func(i int) byte, n int) string {
	var sums []byte
	for i := range api.Parity {
		sums = append(sums, syndrome(i))
	}
	for place, is := range w.erased {
		if is {
			sums = without(sums, w.element(place))
		}
	}
	// The sums i to i + n, each times its coefficient, add up to what the places contribute to the sum i, each times the value of the locator at its element, which is 0.
	coefficients := solved(n, func(i, j int) byte { return sums[i+j] })
	return string(append(coefficients, 1))
}

// without returns sums, one fewer, to which the place with the element x does not contribute. The changes of the other places are multiplied by elements other than 0.
func without(sums []byte, x byte) []byte {
	var left []byte
	for i := range len(sums) - 1 {
		left = append(left, galois.Mul(x, sums[i])^sums[i+1])
	}
	return left
}

// doubtful returns the places that are erased, and those whose elements are roots of the locator.
func (w word) doubtful(locator string) []int {
	var places []int
	for place, is := range w.erased {
		if is || galois.Eval(locator, w.element(place)) == 0 {
			places = append(places, place)
		}
	}
	return places
}
