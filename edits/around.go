package edits

import "glossator/api"

const (
	farthest = 1 << 40 // the greatest offset of an edit
	most     = 1 << 16 // how many edits there are at most
)

// Around: P10.3.
func Around(l []api.Edit) (old, now api.Span, e api.Errno) {
	for _, d := range l {
		if !proper(d) {
			return api.Span{}, api.Span{}, api.ErrArg
		}
	}
	if len(l) > most {
		return api.Span{}, api.Span{}, api.ErrFull
	}
	for i, d := range l {
		if i == 0 { // as if what is to give way were affected already: the edit itself is still to come
			old = api.Span{From: d.From, To: d.To}
			now = old
		}
		old, now = widened(old, now, d)
	}
	return old, now, api.OK
}

func proper(d api.Edit) bool {
	return 0 <= d.From && d.From <= d.To && d.To <= farthest
}

// widened is the affected spans after one more edit.
func widened(old, now api.Span, d api.Edit) (api.Span, api.Span) {
	from, to := min(now.From, d.From), max(now.To, d.To)
	longer := len(d.Text) - (d.To - d.From)
	return api.Span{From: from, To: old.To + to - now.To}, api.Span{From: from, To: to + longer}
}
