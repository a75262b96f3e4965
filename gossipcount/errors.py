"""The errors by which this program refuses."""


class GossipError(ValueError):
    """Any refusal."""


class NoName(GossipError):
    """Something that is no name, or not the name of anybody here."""


class NoAmount(GossipError):
    """Something that is no amount."""


class NoPage(GossipError):
    """Something that is no page."""


class Forged(GossipError):
    """A page that tells more of a hand than the hand itself knows."""


class NoNote(GossipError):
    """A text that no page is written as."""
