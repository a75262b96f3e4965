"""Gossipcount: a count that many keep together."""
