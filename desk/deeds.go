package desk

import (
	"sealring/api"
	"sealring/canon"
	"sealring/decode"
	"sealring/edkey"
	"sealring/envelope"
	"sealring/eventid"
	"sealring/num"
	"sealring/octet"
	"sealring/report"
	"sealring/room"
)

// deed is what a line does, of what is left of it behind its first word.
type deed func(rest string) string

// deeds are what lines do, by their first words.
func (d *Desk) deeds() map[string]deed {
	return map[string]deed{
		"version": d.version,
		"key":     d.key,
		"seed":    d.seed,
		"sign":    d.sign,
		"event":   d.event,
		"txn":     d.txn,
		"id":      d.id,
		"redact":  d.redact,
		"show":    d.show,
	}
}

// others is what lines do that begin with no such word.
func others(string) string { return answer(api.ErrForm) }

// version begins a new room.
func (d *Desk) version(word string) string {
	for v := 1; v <= api.Versions; v++ {
		if num.Show(int64(v)) == word {
			d.room, _ = room.New(v, d.ring) // v is a version
			return report.Line("version", word)
		}
	}
	return answer(api.ErrForm)
}

// key puts a public key into the ring.
func (d *Desk) key(rest string) string {
	server, rest := cut(rest)
	key, digits := cut(rest)
	return unhexed(digits, func(public string) string {
		return answer(d.Put(server, key, public), "key", server, key)
	})
}

// seed puts a seed's public key into the ring.
func (d *Desk) seed(rest string) string {
	server, rest := cut(rest)
	key, digits := cut(rest)
	return unhexed(digits, func(seed string) string {
		public, e := edkey.Public(seed)
		if e != api.OK {
			return answer(e)
		}
		return answer(d.Put(server, key, public), "public", octet.Hex(public))
	})
}

// sign tells an event with one more signature.
func (d *Desk) sign(rest string) string {
	server, rest := cut(rest)
	key, rest := cut(rest)
	digits, text := cut(rest)
	return unhexed(digits, func(seed string) string {
		return parsed(text, func(n api.Node) string {
			signed, e := envelope.Sign(d.room.Version(), n, server, key, seed)
			if e != api.OK {
				return answer(e)
			}
			form, e := canon.Encode(signed)
			return answer(e, "signed", form)
		})
	})
}

// event adds an event to the room.
func (d *Desk) event(text string) string {
	return parsed(text, func(n api.Node) string { return d.added(n) })
}

// txn adds a transaction's events to the room.
func (d *Desk) txn(text string) string {
	r, name, e := decode.Decode(d.room.Version(), d.ring, text)
	return report.Result(r, name, e) + d.added(r.Kept...)
}

// id tells an event's ID.
func (d *Desk) id(text string) string {
	return parsed(text, func(n api.Node) string {
		id, e := eventid.Of(d.room.Version(), n)
		return answer(e, "id", id)
	})
}

// redact leaves out of one of the room's events what isn't kept.
func (d *Desk) redact(id string) string { return answer(d.room.Redact(id), "redacted", id) }

// show tells what the room has.
func (d *Desk) show(rest string) string {
	if rest != "" {
		return answer(api.ErrForm)
	}
	return report.Room(d.room)
}
