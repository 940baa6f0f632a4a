// Package ascii is what the layers share about bytes of texts: great and small letters are A to Z and a to z, and no others. (The library takes some others for them.)
package ascii

// Small: a great letter as a small one; each other byte as it is.
func Small(c byte) byte {
	if c >= 'A' && c <= 'Z' {
		return c + 'a' - 'A'
	}
	return c
}

// Same: are they the same, but for small and great letters?
func Same(a, b string) bool {
	if len(a) != len(b) {
		return false
	}
	for i := range len(a) {
		if Small(a[i]) != Small(b[i]) {
			return false
		}
	}
	return true
}
