package sketch

import "pianola/api"

// reader goes through a text's tokens: at is the place of the next one in their list.
type reader struct {
	tokens []api.Token
	at     int
}

// ahead is the next token. There must be one: nothing asks behind End.
func (r *reader) ahead() api.Token { return r.tokens[r.at] }

// pass is the next token, and goes behind it.
func (r *reader) pass() api.Token {
	token := r.ahead()
	r.at++
	return token
}

// is tells whether the next token is of a sort.
func (r *reader) is(sort api.Sort) bool { return r.ahead().Sort == sort }

// says tells whether the next token is a certain word or mark. Its Text is enough: no word is a mark, and other tokens have none.
func (r *reader) says(text string) bool { return r.ahead().Text == text }
