package expr

import (
	"wherry/api"
)

// reader makes parts of a text. A token is left behind only when nothing is wrong
// at it, so that what is told first is what is first from the left.
type reader struct {
	s      string
	now    token // the one that has come
	behind int   // the place behind it
	nest   int   // how many operands have begun and not ended
	parts  api.Expr
}

// whole reads all of the text.
func (r *reader) whole() api.Expr {
	r.next()
	r.operands(1)
	if r.now.kind != endToken {
		r.refuse()
	}
	return r.parts
}

// operands reads an operand, and others behind operators of at least that level.
func (r *reader) operands(level int) {
	r.operand()
	a := r.last()
	for {
		op := twoHanded(r.now.s)
		if op == 0 || signs[op].level < level {
			return
		}
		r.next()
		r.operands(signs[op].level + 1)
		r.put(api.Part{Op: op, A: a, B: r.last()})
		a = r.last()
	}
}

// operand reads one.
func (r *reader) operand() {
	if r.nest == api.MaxNest {
		giveUp(api.ErrLong, r.now.at)
	}
	r.nest++
	switch r.now.kind {
	case numberToken, textToken:
		r.leaf(api.XValue, r.now.v)
	case wordToken:
		r.afterWord(r.now.s)
	case markToken:
		r.afterMark(r.now.s)
	default:
		r.refuse()
	}
	r.nest--
}

// afterWord reads an operand that begins with a word.
func (r *reader) afterWord(word string) {
	switch word {
	case "and", "or":
		r.refuse()
	case "true", "false":
		r.leaf(api.XValue, truth(word == "true"))
	case "not":
		r.next()
		r.operand()
		r.put(api.Part{Op: api.XNot, A: r.last(), B: -1})
	case "len":
		r.next()
		r.inBrackets()
		r.put(api.Part{Op: api.XLen, A: r.last(), B: -1})
	default:
		r.leaf(api.XVar, text(word))
	}
}

// afterMark reads an operand that begins with a mark.
func (r *reader) afterMark(mark string) {
	switch mark {
	case "(":
		r.inBrackets()
	case "-":
		r.next()
		r.operand()
		r.put(api.Part{Op: api.XNeg, A: r.last(), B: -1})
	default:
		r.refuse()
	}
}

// inBrackets reads brackets and what they hold.
func (r *reader) inBrackets() {
	r.mustBe("(")
	r.operands(1)
	r.mustBe(")")
}

func (r *reader) mustBe(mark string) {
	if r.now.s != mark {
		r.refuse()
	}
	r.next()
}

// leaf puts a part that is of no others and has just this token.
func (r *reader) leaf(op int, v api.Value) {
	r.next()
	r.put(api.Part{Op: op, A: -1, B: -1, V: v})
}

// put puts a part behind the others. Its last token has been left behind.
func (r *reader) put(p api.Part) {
	if len(r.parts) == api.MaxParts {
		giveUp(api.ErrLong, r.now.at)
	}
	r.parts = append(r.parts, p)
}

// last is the place of the last part.
func (r *reader) last() int { return len(r.parts) - 1 }
