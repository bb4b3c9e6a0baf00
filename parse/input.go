package parse

import (
	"slices"

	"codicil/api"
)

// input is what is left of a text's tokens. Behind the first error nothing is left, so that nothing else is found.
type input struct {
	rest []api.Token
	size int  // how many bytes the text has
	over bool // there is one too many: it shows with the next token, unless that has an error that is told ahead of it
	why  api.Errno
	at   int // where the error shows
}

// fail tells an error that shows with the next token, unless there was one.
func (in *input) fail(why api.Errno) {
	if in.why == api.OK {
		in.why, in.at = why, in.place()
	}
	in.rest = nil
}

// place is where the next token begins.
func (in *input) place() int {
	if len(in.rest) == 0 {
		return in.size
	}
	return in.rest[0].At
}

// token is the next one, which stays; none, if nothing is left.
func (in *input) token() api.Token {
	if len(in.rest) == 0 {
		return api.Token{}
	}
	return in.rest[0]
}

// next takes the next token, which is there and has no error of its own.
func (in *input) next() api.Token {
	t := in.token()
	if in.over {
		in.fail(api.ErrMany)
		return api.Token{}
	}
	in.rest = in.rest[1:]
	return t
}

// end tells what shows behind the last token.
func (in *input) end() {
	switch {
	case len(in.rest) > 0:
		in.fail(api.ErrSyntax)
	case in.over:
		in.fail(api.ErrMany)
	}
}

// is tells whether the next token is one of these keywords and signs.
func (in *input) is(texts ...string) bool {
	t := in.token()
	return (t.Kind == api.TokenKey || t.Kind == api.TokenSign) && slices.Contains(texts, t.Text)
}

// may takes the next token, if it is one of these keywords and signs, and tells whether it is.
func (in *input) may(texts ...string) bool {
	is := in.is(texts...)
	if is {
		in.next()
	}
	return is
}

// must takes the next token, which is one of these keywords and signs.
func (in *input) must(texts ...string) string {
	if !in.is(texts...) {
		in.fail(api.ErrSyntax)
		return ""
	}
	return in.next().Text
}

// name takes the next token, which is a name, and none of these.
func (in *input) name(others ...string) string {
	t := in.token()
	switch {
	case t.Kind != api.TokenWord:
		in.fail(api.ErrSyntax)
		return ""
	case slices.Contains(others, t.Text):
		in.fail(api.ErrTwice)
		return ""
	}
	return in.next().Text
}

// parts are read one by one, with a comma between.
func (in *input) parts(part func()) int64 {
	many := int64(0)
	for more := true; more; more = in.may(",") {
		in.over = in.over || many == api.MaxParts
		part()
		many++
	}
	return many
}

// partsTill are read likewise, or there are none, up to a closing bracket.
func (in *input) partsTill(closing string, part func()) int64 {
	if in.may(closing) {
		return 0
	}
	many := in.parts(part)
	in.must(closing)
	return many
}
