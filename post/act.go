package post

import "postroom/api"

// checkAll acts of a script, so that none of them is done if one may not be.
func checkAll(l []api.Act) api.Errno {
	if len(l) > api.MaxSteps {
		return api.ErrSize
	}
	for _, a := range l {
		if e := Check(a); e != api.OK {
			return e
		}
	}
	return api.OK
}

// inBounds tells whether the number that an act's kind has is one that there may be.
func inBounds(a api.Act) bool {
	switch a.Kind {
	case api.Feed:
		return 0 <= a.Conn && a.Conn < api.MaxConns
	case api.Crash:
		return 0 <= a.Keep && a.Keep <= api.MaxBytes
	case api.Order:
		return 0 <= a.User && a.User < api.MaxUsers
	}
	return true
}

// bare: an act with just what its kind has.
func bare(a api.Act) api.Act {
	b := api.Act{Kind: a.Kind}
	switch a.Kind {
	case api.Feed:
		b.Conn, b.Data = a.Conn, a.Data
	case api.Crash:
		b.Keep = a.Keep
	case api.Order:
		b.User, b.Entry = a.User, a.Entry
	}
	return b
}
