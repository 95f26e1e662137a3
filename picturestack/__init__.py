"""Pictures laid on one another."""
