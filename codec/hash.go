package codec

import (
	"twine/merkle"
	"twine/sum"
	"twine/tree"
)

// dirText is the first byte of merkle's text of a directory, and of no other text.
const dirText = 'D'

// hashesOf tells the hashes of all directories of t, each behind those of the directories in it. They are got out of merkle's texts, all in one going: a Root for each directory would go through what lies deep once for each directory above it.
func hashesOf(t *tree.Tree) [][32]byte {
	var l [][32]byte
	for text := range merkle.By(nil).Texts(t) {
		if text[0] == dirText {
			l = append(l, sum.SHA(text))
		}
	}
	return l
}
