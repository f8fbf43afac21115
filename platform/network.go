package platform

import "rolodex/api"

// Send sends a device's next request.
func (w *World) Send(dev int) (int, api.Errno) {
	w.steps.Add(1)
	c := w.Device(dev)
	if c == nil {
		return 0, api.EARG
	}
	b, ok := c.Next(w.Now(), w.net.Rand())
	if !ok {
		return 0, api.OK
	}
	return w.net.Send(dev, serverNode, b), api.OK
}

// Deliver delivers a packet.
func (w *World) Deliver(id, most int) api.Errno {
	w.steps.Add(1)
	from, to, b, e := w.net.Deliver(id, most)
	if e != api.OK {
		return e
	}
	if to == serverNode {
		w.net.Send(serverNode, from, w.server.Handle(b, w.Now()))
	} else if c := w.Device(to); c != nil {
		c.Handle(b, w.Now(), w.net.Rand())
	}
	return api.OK
}

// Double doubles one.
func (w *World) Double(id int) (int, api.Errno) {
	w.steps.Add(1)
	return w.net.Double(id)
}

// Lose loses one.
func (w *World) Lose(id int) api.Errno {
	w.steps.Add(1)
	return w.net.Drop(id)
}

// Inject sends bytes from nowhere.
func (w *World) Inject(to int, b []byte) int {
	w.steps.Add(1)
	return w.net.Send(strangers, to, b)
}

// Tick moves the clock.
func (w *World) Tick(d int64) api.Errno {
	w.steps.Add(1)
	return w.net.Tick(d)
}

// Feed gives a number.
func (w *World) Feed(v uint64) {
	w.steps.Add(1)
	w.net.Feed(v)
}

// Round syncs a device, without faults.
func (w *World) Round(dev int) (int, api.Errno) {
	w.rounds.Add(1)
	c := w.Device(dev)
	if c == nil {
		return 0, api.EARG
	}
	ticks := int64(roundTick)
	if c.Out() {
		ticks += roundTick
	}
	if w.Now() > mostTime-ticks {
		return 0, api.EARG
	}
	w.Tick(roundTick)
	if c.Out() {
		// The request that is out has failed by now; the second Tick is for the timer.
		w.Send(dev)
		w.Tick(roundTick)
	}
	c.Poll()
	for sent := range mostRound {
		id, _ := w.Send(dev)
		if id == 0 {
			return sent, api.OK
		}
		w.Deliver(id, whole)
		w.Deliver(w.net.Sent(), whole)
	}
	return mostRound, api.OK
}
