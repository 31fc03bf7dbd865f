// Package transact does something to a store under a transaction of its log, completely or not at all.
package transact

import (
	"tabellion/api"
	"tabellion/txn"
	"tabellion/undo"
)

// Do calls act with the store and a new transaction, and commits it. If act returns an error, it must return the store as
// it is then: all that was done is undone, unless the power is off.
func Do(s api.Store, act func(s api.Store, who int) (api.Store, api.Errno)) (api.Store, api.Errno) {
	s, who, err := txn.Begin(s)
	if err != api.OK {
		return s, err
	}
	s, err = act(s, who)
	if err == api.OK {
		s, err = txn.Commit(s, who)
	}
	if err == api.OK || err == api.ErrDown {
		return s, err
	}
	s, failed := undo.Back(s, who)
	if failed != api.OK {
		return s, failed
	}
	return s, err
}
