package script

import (
	"tabellion/api"
	"tabellion/ckpt"
	"tabellion/disk"
	"tabellion/engine"
	"tabellion/pool"
	"tabellion/session"
)

// Run runs acts on a new engine and returns one reply for each.
func Run(z api.Size, l []api.Act) []api.Reply {
	e, err := engine.New(z)
	if err != api.OK {
		return []api.Reply{{E: err}}
	}
	r := run{z: z, e: e}
	var replies []api.Reply
	for _, a := range l {
		replies = append(replies, r.act(a))
	}
	return replies
}

// run is an engine and its sessions.
type run struct {
	z api.Size
	e api.Engine
	s [sessions]api.Session
}

// act does an act.
func (r *run) act(a api.Act) (reply api.Reply) {
	switch a.Kind {
	case api.AText:
		return r.say(a)
	case api.APower:
		r.e.Store.Disk = disk.Arm(r.e.Store.Disk, a.N)
	case api.AOpen:
		r.e, reply.E = engine.Open(disk.Start(r.e.Store.Disk), r.z)
		for i := range r.s {
			r.s[i] = session.New()
		}
	case api.AFlush:
		reply.E = r.store(func(s api.Store) (api.Store, api.Errno) { return pool.Flush(s, a.N) })
	case api.ACheck:
		reply.E = r.store(ckpt.Take)
	default:
		reply.E = api.ErrArg
	}
	return reply
}

// store does something with the store if the power is on.
func (r *run) store(do func(api.Store) (api.Store, api.Errno)) (err api.Errno) {
	if r.e.Store.Disk.Down {
		return api.ErrDown
	}
	r.e.Store, err = do(r.e.Store)
	return err
}

// say lets a session execute a statement.
func (r *run) say(a api.Act) (reply api.Reply) {
	if a.Who < 0 || a.Who >= sessions {
		return api.Reply{E: api.ErrArg}
	}
	if r.e.Store.Disk.Down {
		return api.Reply{E: api.ErrDown}
	}
	r.e, r.s[a.Who], reply = session.Text(r.e, r.s[a.Who], a.Text)
	return reply
}
