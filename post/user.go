package post

import (
	"slices"

	"postroom/api"
	"postroom/rule"
	"postroom/who"
)

// open a room for users: it is up, and nothing has come yet.
func open(users []api.User) (*room, api.Errno) {
	if len(users) == 0 || len(users) > api.MaxUsers {
		return nil, api.ErrSize
	}
	r := &room{up: true, ledger: newLedger(len(users)), orders: make([][]api.Errno, len(users))}
	for _, u := range users {
		if e := r.addUser(u); e != api.OK {
			return nil, e
		}
	}
	return r, api.OK
}

// addUser behind the others.
func (r *room) addUser(u api.User) api.Errno {
	switch {
	case who.Check(api.Address{Local: u.Local, Domain: "x"}) != api.OK:
		return api.ErrForm
	case slices.Contains(r.locals, u.Local):
		return api.ErrTwice
	}
	script, e := rule.Read(u.Script)
	if e != api.OK {
		return e
	}
	r.locals, r.scripts = append(r.locals, u.Local), append(r.scripts, script)
	return api.OK
}
