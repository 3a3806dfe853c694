package desk

import (
	"strings"

	"sealring/api"
	"sealring/num"
	"sealring/octet"
	"sealring/parse"
	"sealring/report"
)

const blank = " "

// cut is a text's first word, and what is left behind the blank that ends it.
func cut(text string) (word, rest string) {
	word, rest, _ = strings.Cut(text, blank)
	return word, rest
}

// answer is the line of these words, or of the error, if there is one.
func answer(e api.Errno, words ...string) string {
	if e != api.OK {
		return report.Line("error", num.Show(int64(e)))
	}
	return report.Line(words...)
}

// unhexed is what is told of the bytes that digits stand for.
func unhexed(digits string, tell func(bytes string) string) string {
	bytes, e := octet.Unhex(digits)
	if e != api.OK {
		return answer(e)
	}
	return tell(bytes)
}

// parsed is what is told of the node that a text is read as.
func parsed(text string, tell func(n api.Node) string) string {
	n, _, e := parse.Parse(text)
	if e != api.OK {
		return answer(e)
	}
	return tell(n)
}

// added adds events to the room, and tells the verdict on each.
func (d *Desk) added(l ...api.Node) string {
	var b strings.Builder
	for _, x := range d.room.Add(l...) {
		b.WriteString(report.Verdict(x))
	}
	return b.String()
}
