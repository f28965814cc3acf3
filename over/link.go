package over

import (
	"foyer/api"
	"foyer/pager"
)

// none is in place of the next page of the last one.
const none = 0

// chainKind is the kind of all pages of chains.
const chainKind = 2

// place is where the number of a page stands in a body.
type place int

const (
	// nextAt is where a page names the next one. Its piece stands behind that.
	nextAt  place = 0
	pieceAt       = int(nextAt) + 2
	// pieceSize is how many bytes a piece has, unless it is the last one.
	pieceSize = api.MaxBody - pieceAt
)

// lay puts the number of a page in a body, the higher byte first.
func (p place) lay(body []byte, page int) {
	body[p], body[p+1] = byte(page>>8), byte(page)
}

// read tells the number that stands in a body.
func (p place) read(body string) int {
	return int(body[p])<<8 | int(body[p+1])
}

// link is what a page of a chain has: the next page, and a piece of the text.
type link struct {
	next  int
	piece string
}

// body is the body of a link's page.
func (l link) body() string {
	lay := nextAt.lay
	b := append(make([]byte, pieceAt), l.piece...)
	lay(b, l.next)
	return string(b)
}

// read reads the link of a page.
func read(t *pager.Tx, page int) (link, api.Errno) {
	number := nextAt.read
	kind, body, e := t.Read(page)
	switch e {
	case api.OK:
	case api.ErrNil, api.ErrOff, api.ErrGone, api.ErrDead:
		return link{}, e
	default:
		return link{}, api.ErrBroken
	}
	if kind != chainKind || len(body) <= pieceAt {
		return link{}, api.ErrBroken
	}
	return link{next: number(body), piece: body[pieceAt:]}, api.OK
}
