package block

// strand returns the elements of l with the indices j, j + depth, j + 2 depth, ...
func strand[E any](l []E, j, depth int) []E {
	var s []E
	for i := j; i < len(l); i += depth {
		s = append(s, l[i])
	}
	return s
}

// spread stores bytes as the elements of l with the indices j, j + depth, j + 2 depth, ...
func spread(l []byte, j, depth int, s string) {
	for i := range len(s) {
		l[j+i*depth] = s[i]
	}
}

// strands returns what belongs to the code block j: elements of the data, of which there are n, and of the parity, which count anew.
func strands[E any](l []E, n, j, depth int) []E {
	return append(strand(l[:n], j, depth), strand(l[n:], j, depth)...)
}
