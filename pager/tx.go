package pager

import (
	"foyer/api"
	"foyer/cell"
	"foyer/root"
)

// Tx is a transaction.
type Tx struct {
	pager *Pager
	// own is where pages stand for it, and which sectors are not free for it: those that the pager's root needs are not, whatever stands there.
	own places
	// texts are the sealed texts of the pages that it wrote, and their sectors.
	texts map[int]api.Write
	over  bool
}

// commit is what is laid on the disk, and what counts behind it: the root, the sector in which it stands, and what it tells.
type commit struct {
	writes []api.Write
	root   api.Root
	which  int
	now    places
}

// Pages tells the pages that stand, rising.
func (t *Tx) Pages() []int {
	if t.refuses() != api.OK {
		return nil
	}
	return t.own.pages()
}

// Read tells the kind and the body of a page.
func (t *Tx) Read(page int) (kind int, body string, e api.Errno) {
	if e = t.lacks(page); e != api.OK {
		return 0, "", e
	}
	sealed, e := t.sealed(page)
	if e != api.OK {
		return 0, "", e
	}
	kind, body, err := cell.Open(sealed)
	if err != nil {
		return 0, "", api.ErrBroken
	}
	return kind, body, api.OK
}

// Write changes the kind and the body of a page.
func (t *Tx) Write(page, kind int, body string) api.Errno {
	if e := t.lacks(page); e != api.OK {
		return e
	}
	sealed, e := seal(kind, body)
	if e != api.OK {
		return e
	}
	return t.put(page, sealed)
}

// New makes a page, and tells which one it is.
func (t *Tx) New(kind int, body string) (int, api.Errno) {
	if e := t.refuses(); e != api.OK {
		return none, e
	}
	sealed, e := seal(kind, body)
	if e != api.OK {
		return none, e
	}
	page, e := t.own.Lowest()
	if e != api.OK {
		return none, e
	}
	if e := t.put(page, sealed); e != api.OK {
		return none, e
	}
	return page, api.OK
}

// Drop lets a page stand nowhere.
func (t *Tx) Drop(page int) api.Errno {
	if e := t.lacks(page); e != api.OK {
		return e
	}
	// A sector that the pager's root needs stays used, as that root counts till the commit is done.
	if text, wrote := t.texts[page]; wrote {
		t.own.Give(text.Sector)
		delete(t.texts, page)
	}
	return t.own.Drop(page)
}

// Commit makes all so that was changed, or nothing.
func (t *Tx) Commit() api.Errno {
	// Whatever is answered, it is over then.
	defer t.Abort()
	if e := t.refuses(); e != api.OK {
		return e
	}
	if len(t.own.Dirty()) == 0 {
		return api.OK
	}
	c, e := t.plan()
	if e != api.OK {
		return e
	}
	return t.pager.lay(c)
}

// Abort lets go all that was changed.
func (t *Tx) Abort() {
	if t == nil || t.pager == nil {
		return
	}
	t.pager.busy = false
	*t = Tx{over: true}
}

// refuses tells why all calls of the transaction are refused, if they are.
func (t *Tx) refuses() api.Errno {
	switch {
	case t == nil:
		return api.ErrNil
	case t.over:
		return api.ErrGone
	case t.pager == nil:
		// Begin did not make it, so it is none.
		return api.ErrNil
	case t.pager.dead:
		return api.ErrDead
	}
	return api.OK
}

// lacks tells why a page can't be asked for, if it can't.
func (t *Tx) lacks(page int) api.Errno {
	if e := t.refuses(); e != api.OK {
		return e
	}
	if t.own.Get(page) == none {
		return api.ErrNone
	}
	return api.OK
}

// sealed is the text of a page that stands.
func (t *Tx) sealed(page int) (string, api.Errno) {
	if text, wrote := t.texts[page]; wrote {
		return text.Data, api.OK
	}
	s, e := t.pager.disk.Read(t.own.Get(page))
	if e != api.OK {
		t.pager.dead = true
	}
	return s, e
}

// put lets a page have a text: in the sector of the text that was written there, if one was, else in the lowest one that is free.
func (t *Tx) put(page int, sealed string) api.Errno {
	text, wrote := t.texts[page]
	if !wrote {
		sector, e := t.own.Take()
		if e != api.OK {
			return e
		}
		t.own.Set(page, sector)
		text.Sector = sector
	}
	text.Data = sealed
	t.texts[page] = text
	return api.OK
}

// plan tells what the transaction's commit is.
func (t *Tx) plan() (commit, api.Errno) {
	p := t.pager
	r, which := root.Next(p.root, p.which)
	r.Sectors = p.disk.Sectors()
	writes := t.written()
	for _, i := range t.own.Dirty() {
		r.Chunks[i] = none
		if !t.own.fills(i) {
			continue
		}
		chunk, e := t.chunk(i)
		if e != api.OK {
			return commit{}, e
		}
		r.Chunks[i] = chunk.Sector
		writes = append(writes, chunk)
	}
	t.own.Clean()
	now, e := placesOf(r.Sectors, r.Chunks, t.own.Table)
	return commit{writes: writes, root: r, which: which, now: now}, e
}

// written are the texts that the transaction wrote, page by page, rising.
func (t *Tx) written() []api.Write {
	var writes []api.Write
	for _, page := range t.own.pages() {
		if text, wrote := t.texts[page]; wrote {
			writes = append(writes, text)
		}
	}
	return writes
}

// chunk is the sealed text of the chunk i, and the sector that it takes.
func (t *Tx) chunk(i int) (api.Write, api.Errno) {
	sector, e := t.own.Take()
	if e != api.OK {
		return api.Write{}, e
	}
	sealed, e := cell.Seal(chunkKind, t.own.Chunk(i))
	return api.Write{Sector: sector, Data: sealed}, e
}

// seal makes the text of a page: its kind and its body, sealed.
func seal(kind int, body string) (string, api.Errno) {
	if kind == chunkKind {
		return "", api.ErrKind
	}
	return cell.Seal(kind, body)
}
