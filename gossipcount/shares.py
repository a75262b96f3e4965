"""Shares: what a hand has raised and what it has lowered, as a pair."""

from gossipcount.names import is_whole

NOTHING = (0, 0)
BEYOND = 10 ** 60


def is_share(thing):
    """Tell whether a thing of any kind is a share, (0, 0) included."""
    if not isinstance(thing, tuple) or len(thing) != 2:
        return False
    return all([is_whole(number) and 0 <= number < BEYOND for number in thing])


def greater(one, other):
    """Tell the share that two shares are joined to."""
    return (max(one[0], other[0]), max(one[1], other[1]))


def reaches(one, other):
    """Tell whether neither number of the first share is less than the other's."""
    return one[0] >= other[0] and one[1] >= other[1]


def net(share):
    """Tell the raises of a share less its lowers."""
    return share[0] - share[1]
