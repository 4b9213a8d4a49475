package service

import (
	"newswire/api"
	"newswire/copies"
	"newswire/disk"
	"newswire/journal"
)

// Store is a service whose events are kept on a disk.
type Store struct {
	journal *journal.Journal
	setup   api.Setup
	service api.Service
}

// Open returns a store with the journal on d.
func Open(d *disk.Disk, u api.Setup) (*Store, api.Errno) {
	j, e := journal.Open(d)
	if e != api.OK {
		return nil, e
	}
	s, e := New(u)
	if e != api.OK {
		return nil, api.ErrService
	}
	x := &Store{journal: j, setup: copies.Setup(u), service: s}
	for _, record := range j.Records() {
		event, e := Decode(record)
		if e != api.OK {
			return nil, api.ErrService
		}
		if x.service, e = x.after(event); e != api.OK {
			return nil, api.ErrService
		}
	}
	return x, api.OK
}

// after returns the service after an event.
func (x *Store) after(e api.Event) (api.Service, api.Errno) {
	return changing(x.setup, x.service, func(c *changer) { c.act(e) })
}

// Do does e.
func (x *Store) Do(e api.Event) api.Errno {
	if x == nil {
		return api.ErrNil
	}
	record, fault := Encode(e)
	if fault != api.OK {
		return api.ErrService
	}
	next, fault := x.after(e)
	if fault != api.OK {
		return api.ErrService
	}
	if fault := x.journal.Append([]string{record}); fault != api.OK {
		return fault
	}
	x.service = next
	return api.OK
}

// Now returns the service.
func (x *Store) Now() api.Service {
	if x == nil {
		return api.Service{}
	}
	return copies.Service(x.service)
}
