package library

import (
	"tapearchive/api"
	"tapearchive/drive"
	"tapearchive/robot"
)

// course is an operation under way: the library as it is by now, the time so far, and the error that has ended it.
type course struct {
	api.Library
	time int
	e    api.Errno
}

// motion is what a drive does with a cartridge; it returns what has become of both, and the time.
type motion func(m api.DriveModel, d api.Drive, tape api.Cartridge) (api.Drive, api.Cartridge, int, api.Errno)

// begin returns a course that begins with a library, in new memory.
func begin(l api.Library) *course {
	return &course{Library: copied(l)}
}

// end returns the library, the time and the error at the end of a course; ErrMedia leaves the others as they are.
func (c *course) end() (api.Library, int, api.Errno) {
	if c.e != api.OK && c.e != api.ErrMedia {
		return api.Library{}, 0, c.e
	}
	return c.Library, c.time, c.e
}

// step does what takes some time, unless the course has ended.
func (c *course) step(do func() (int, api.Errno)) {
	if c.e != api.OK {
		return
	}
	time, e := do()
	c.time, c.e = c.time+time, e
}

// mount brings a cartridge from a slot or the port into a drive that does not hold it.
func (c *course) mount(barcode string, number int) {
	if c.Drives[number].State == api.DriveReady {
		c.dismount(number)
	}
	if drive.Due(c.Drive, c.Drives[number]) {
		c.clean(number)
	}
	from, _ := robot.Find(c.Robot, barcode)
	c.pick(from, barcode)
	c.put(driveElement(number))
	c.run(number, barcode, drive.Load)
}

// dismount brings the cartridge of a drive into the first empty slot.
func (c *course) dismount(number int) {
	barcode := c.Drives[number].Barcode
	slot, _ := robot.Empty(c.Robot)
	c.run(number, barcode, drive.Unload)
	c.pick(driveElement(number), barcode)
	c.put(api.Element{Kind: api.ElementSlot, Index: slot})
}

// pick lets the robot take a cartridge out of an element.
func (c *course) pick(e api.Element, barcode string) {
	c.step(func() (time int, errno api.Errno) {
		c.Robot, time, errno = robot.Pick(c.Model, c.Robot, e, barcode)
		return time, errno
	})
}

// put lets the robot put what it holds into an element.
func (c *course) put(e api.Element) {
	c.step(func() (time int, errno api.Errno) {
		c.Robot, time, errno = robot.Put(c.Model, c.Robot, e)
		return time, errno
	})
}

// clean cleans an empty drive.
func (c *course) clean(number int) {
	c.step(func() (time int, e api.Errno) {
		c.Drives[number], time, e = drive.Clean(c.Drive, c.Drives[number])
		return time, e
	})
}

// seek moves the head of a drive in front of a block.
func (c *course) seek(number, to int) {
	c.run(number, c.Drives[number].Barcode, func(m api.DriveModel, d api.Drive, tape api.Cartridge) (api.Drive, api.Cartridge, int, api.Errno) {
		return drive.Seek(m, d, tape, to)
	})
}

// read reads n blocks from the head of a drive on, or those before the first bad one, and returns them.
func (c *course) read(number, n int) []api.Block {
	var blocks []api.Block
	c.run(number, c.Drives[number].Barcode, func(m api.DriveModel, d api.Drive, tape api.Cartridge) (api.Drive, api.Cartridge, int, api.Errno) {
		d, tape, l, time, e := drive.Read(m, d, tape, n)
		blocks = l
		return d, tape, time, e
	})
	return blocks
}

// write writes blocks at the head of a drive.
func (c *course) write(number int, l []api.Block) {
	c.run(number, c.Drives[number].Barcode, func(m api.DriveModel, d api.Drive, tape api.Cartridge) (api.Drive, api.Cartridge, int, api.Errno) {
		return drive.Write(m, d, tape, l)
	})
}

// run lets a drive do something with a cartridge.
func (c *course) run(number int, barcode string, do motion) {
	c.step(func() (time int, e api.Errno) {
		d := &c.Drives[number]
		tape := c.cartridge(barcode)
		*d, *tape, time, e = do(c.Drive, *d, *tape)
		return time, e
	})
}

// cartridge returns the cartridge with a barcode, which is in the library.
func (c *course) cartridge(barcode string) *api.Cartridge {
	at, _ := find(c.Cartridges, barcode)
	return &c.Cartridges[at]
}
