"""Rows of meetings behind which everybody knows all."""

CORE = 4


def calls(names):
    """Tell a row of meetings by which all of these names come to know all, as pairs of names."""
    if len(names) < CORE:
        return _around_the_first(names)
    first, second, third, fourth = names[:CORE]
    # Four share all that they know in four meetings, one less than around the first of them.
    core = [(first, second), (third, fourth), (first, third), (second, fourth)]
    others = [(first, name) for name in names[CORE:]]
    return others + core + others


def _around_the_first(names):
    spokes = [(names[0], name) for name in names[1:]]
    # Whom the first one meets last knows all then, and need not be met again.
    return spokes + spokes[:-1]
