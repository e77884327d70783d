// Package fault ends calls early: an error that is found deep within goes up by panic to where the call began, and is answered there.
package fault

import "scriptorium/api"

// Catch does do, and answers the error with which Must or Need has ended it.
func Catch(do func()) (err api.Errno) {
	defer func() {
		switch e := recover().(type) {
		case nil:
		case api.Errno:
			err = e
		default:
			panic(e)
		}
	}()
	do()
	return api.OK
}

// Must ends what Catch does, if there is an error.
func Must(err api.Errno) {
	if err != api.OK {
		panic(err)
	}
}

// Need ends what Catch does with that error, unless ok.
func Need(ok bool, err api.Errno) {
	if !ok {
		panic(err)
	}
}
