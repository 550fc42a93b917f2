package graph

import "fluxion/api"

// caught returns the error that f panics with. Errors leave by panics so that what is checked
// later may take it that all that was checked before holds.
func caught(f func()) (e api.Errno) {
	defer func() {
		if r := recover(); r != nil {
			e = r.(api.Errno)
		}
	}()
	f()
	return api.OK
}

func demand(holds bool, e api.Errno) {
	if !holds {
		panic(e)
	}
}

func demandOK(e api.Errno) { demand(e == api.OK, e) }
