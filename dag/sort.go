package dag

import (
	"strconv"
	"strings"
)

// sortKey is what tells a sort from all others: its name, and the places of the sorts in it as a text.
type sortKey struct{ name, args string }

// keyOf gives the key of a sort. The key is kept: a name that is a piece of a long text would keep all of that.
func keyOf(name string, args []int) sortKey {
	var text []byte
	for _, arg := range args {
		text = strconv.AppendInt(text, int64(arg), 10)
		text = append(text, ' ')
	}
	return sortKey{name: strings.Clone(name), args: string(text)}
}

// areSorts tells whether there are sorts at all these places.
func (a *Arena) areSorts(places ...int) bool {
	for _, place := range places {
		if place < 0 || place >= len(a.sorts) {
			return false
		}
	}
	return true
}
