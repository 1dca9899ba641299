package block

import (
	"perigee/api"
	"perigee/galois"
)

// matrix contains equations: in each row the coefficients of the unknowns and, in the column behind them, the right side.
type matrix [api.Parity]row

type row [api.Parity + 1]byte

// unsolvable is the panic of equations that do not have exactly one solution.
type unsolvable struct{}

// solved returns the solution of n equations with n unknowns. The entries of the column n are the right sides.
func solved(n int, entry func(i, j int) byte) []byte {
	var m matrix
	for i := range n {
		for j := range n + 1 {
			m[i][j] = entry(i, j)
		}
	}
	for j := range n {
		m.isolate(j, n)
	}
	solution := make([]byte, n)
	for i := range n {
		solution[i] = m[i][n]
	}
	return solution
}

// isolate makes the coefficient of the unknown j 1 in the equation j, and 0 in the other ones of n equations.
func (m *matrix) isolate(j, n int) {
	first := j
	for m[first][j] == 0 {
		first++
		if first == n {
			panic(unsolvable{})
		}
	}
	m[first], m[j] = m[j], m[first]
	inverse, _ := galois.Div(1, m[j][j])
	m[j] = m[j].times(inverse)
	for i := range n {
		if i != j {
			m[i] = m[i].plus(m[j].times(m[i][j]))
		}
	}
}

// times returns the product of a row and an element.
func (r row) times(x byte) row {
	for j, c := range r {
		r[j] = galois.Mul(x, c)
	}
	return r
}

// plus returns the sum of two rows.
func (r row) plus(s row) row {
	for j, c := range s {
		r[j] ^= c
	}
	return r
}
