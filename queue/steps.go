package queue

// The steps of a work, by their numbers. Where nothing else is decided, behind each comes the next one. What is another layer's machine has one number, however many steps it has itself.
const (
	noStep = iota // the work is done

	// OpEnq: a slot is filled,
	takeStep      // by a Take
	fillValStep   // the value is stored
	fillLinkStep  // its link
	fillTagStep   // its tag
	fillFlushStep // its line is flushed
	fillFenceStep // and fenced

	// and hung behind the queue's last one.
	endStep     // the tail is loaded
	endReadStep // the link of its slot is read
	hangStep    // a link to the slot is put there
	endMoveStep // the tail is moved to the slot
	dropStep    // the intent is dropped
	endLagStep  // else the tail is moved to the slot that is behind its own

	// OpDeq: it is said that it begins, and the queue is looked at,
	cellStep       // the thread's cell is loaded
	beginStep      // the next one, not done, is stored there
	beginFlushStep // its line is flushed
	beginFenceStep // and fenced
	headStep       // the head is loaded
	tailStep       // the tail
	readStep       // the link of the head's slot is read
	lagStep        // the tail is moved to the slot that is behind the head's

	// one that has taken the first value ahead is helped,
	helpedStep    // its cell is loaded
	helpValStep   // the value that it has taken
	helpHeadStep  // the head
	helpCellStep  // its cell is swapped for one that is done
	helpFlushStep // its line is flushed
	helpFenceStep // and fenced
	helpMoveStep  // the head is moved

	// or the first value is taken.
	roomStep      // there is room in the log
	markStep      // the link of the head's slot is put that says by whom it was taken
	valStep       // the value is loaded
	tellStep      // the cell is swapped for one that is done
	tellFlushStep // its line is flushed
	tellFenceStep // and fenced
	headMoveStep  // the head is moved
	headFlushStep // its line is flushed
	headFenceStep // and fenced
	stampStep     // the head's slot is stamped
	cancelStep    // else the place in the log is canceled
)
