package answer

import (
	"strconv"
	"strings"

	"plait/api"
)

const (
	digits = "0123456789abcdef"
	base   = len(digits)
)

// Text is an answer as a text.
func Text(code int, a Answer) (string, error) {
	p, err := check(code, a)
	if err != nil {
		return "", err
	}
	if a.Err != 0 {
		return "error " + strconv.Itoa(a.Err), nil
	}
	var t text
	for _, h := range a.Handles {
		t.handle(h)
	}
	if p.is {
		t.word(yesOrNo(a.Is))
	}
	if p.n {
		t.number(a.N)
	}
	for _, d := range a.Darts {
		t.dart(d)
	}
	if p.counts {
		for _, n := range numbers(a.Counts) {
			t.number(n)
		}
	}
	if p.sum {
		t.word(strconv.FormatInt(a.Sum, 10))
	}
	t.data(a.Data)
	if t.Len() == 0 {
		t.word(p.nothing())
	}
	return t.String(), nil
}

// nothing is the text of an answer that has no parts to tell.
func (p parts) nothing() string {
	switch {
	case p.face:
		return "none"
	case p.data:
		return "empty"
	}
	return "ok"
}

func yesOrNo(is bool) string {
	if is {
		return "yes"
	}
	return "no"
}

// text is parts with a blank between.
type text struct{ strings.Builder }

func (t *text) word(s string) {
	if t.Len() > 0 {
		t.WriteByte(' ')
	}
	t.WriteString(s)
}

func (t *text) number(n int) { t.word(strconv.Itoa(n)) }

func (t *text) handle(h api.Handle) {
	t.number(int(h.At))
	t.WriteByte('#')
	t.WriteString(strconv.FormatUint(uint64(h.Age), 10))
}

func (t *text) dart(d Side) {
	t.handle(d.Edge)
	t.WriteByte('.')
	t.WriteString(strconv.Itoa(d.At))
}

// data is no more than one part, whatever its length: there are no blanks in it.
func (t *text) data(l []byte) {
	t.Grow(2 * len(l))
	for _, x := range l {
		t.WriteByte(digits[int(x)/base])
		t.WriteByte(digits[int(x)%base])
	}
}
