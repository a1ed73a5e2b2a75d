package parse

import "padlock/api"

// fault: which token can't stand where it stands, and why.
type fault struct {
	place int
	errno api.Errno
}

// reader of tokens, one behind the other, and of the ops of the expression that it is at.
type reader struct {
	tokens []api.Token
	at     int
	ops    []api.Op
}

// giveUp: the token whose turn it is can't stand there, or there is none.
func (r *reader) giveUp(e api.Errno) {
	if r.at == len(r.tokens) {
		e = api.ErrShort
	}
	panic(fault{r.at, e})
}

// giveBack: the token that was eaten last should not have been.
func (r *reader) giveBack(e api.Errno) {
	panic(fault{r.at - 1, e})
}

// now: the token whose turn it is; one without a kind where they have ended.
func (r *reader) now() api.Token {
	if r.at == len(r.tokens) {
		return api.Token{}
	}
	return r.tokens[r.at]
}

// may: eat this word or mark, if it stands there.
func (r *reader) may(text string) bool {
	t := r.now()
	if t.Kind != api.Word && t.Kind != api.Mark || t.Text != text {
		return false
	}
	r.at++
	return true
}

// must: eat these words and marks, which must stand there.
func (r *reader) must(texts ...string) {
	for _, text := range texts {
		if !r.may(text) {
			r.giveUp(api.ErrForm)
		}
	}
}

// number that must stand there.
func (r *reader) number() int {
	t := r.now()
	if t.Kind != api.Number {
		r.giveUp(api.ErrForm)
	}
	r.at++
	return t.Int
}

// list of things with a comma between each two. It is the comma that can't stand where a list is as long as can be.
func (r *reader) list(thing func()) {
	thing()
	for n := 1; r.may(","); n++ {
		if n == api.MaxValues {
			r.giveBack(api.ErrFull)
		}
		thing()
	}
}
