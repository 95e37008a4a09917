package tree

import "collator/api"

// reader keeps the lists that aren't closed yet, each within the one ahead of it; the first one, which is always there, takes what stands within none. At the first token that is wrong it panics with the fault.
type reader struct {
	deep  int
	lists []api.Tree
}

// all gives the trees of tokens.
func (r *reader) all(tokens []api.Token) (trees []api.Tree, fault api.Fault) {
	defer func() {
		switch wrong := recover().(type) {
		case nil:
		case api.Fault:
			trees, fault = nil, wrong
		default:
			// What isn't a fault must not be taken for an answer.
			panic(wrong)
		}
	}()
	for _, t := range tokens {
		r.take(t)
	}
	if last := r.last(); last > 0 {
		refuse(api.ErrParen, r.lists[last].Tok)
	}
	return r.lists[0].Kids, fault
}

func (r *reader) take(t api.Token) {
	switch t.Kind {
	case api.TokOpen:
		r.open(t)
	case api.TokClose:
		r.end(t)
	default:
		r.put(api.Tree{Tok: t})
	}
}

func (r *reader) open(t api.Token) {
	if r.last() >= r.deep {
		refuse(api.ErrLimit, t)
	}
	r.lists = append(r.lists, api.Tree{List: true, Tok: t})
}

func (r *reader) end(t api.Token) {
	last := r.last()
	if last == 0 {
		refuse(api.ErrParen, t)
	}
	list := r.lists[last]
	r.lists = r.lists[:last]
	r.put(list)
}

// put lays a tree into the last list that isn't closed.
func (r *reader) put(t api.Tree) {
	list := &r.lists[r.last()]
	list.Kids = append(list.Kids, t)
}

// last gives the place of the last list that isn't closed, which is how many there are of them.
func (r *reader) last() int { return len(r.lists) - 1 }

// refuse ends the reading at a token.
func refuse(code api.Errno, t api.Token) { panic(api.Fault{Code: code, At: t.At}) }
