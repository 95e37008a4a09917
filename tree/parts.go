package tree

import (
	"iter"

	"collator/api"
)

// part is of what kind a part of a tree is, as it stands in a text.
type part int

const (
	begins part = iota // a list
	ends
	stands // a token
)

// parts goes through a tree as it stands in a text, with the token of what stands there. It keeps the way itself: a tree may be deeper than calls can be.
func parts(t api.Tree) iter.Seq2[part, api.Token] {
	return func(yield func(part, api.Token) bool) {
		left := [][]api.Tree{{t}}
		for last := 0; last >= 0; last = len(left) - 1 {
			if len(left[last]) == 0 {
				left = left[:last]
				if last > 0 && !yield(ends, api.Token{}) {
					return
				}
				continue
			}
			next := left[last][0]
			left[last] = left[last][1:]
			kind := stands
			if next.List {
				kind = begins
				left = append(left, next.Kids)
			}
			if !yield(kind, next.Tok) {
				return
			}
		}
	}
}
