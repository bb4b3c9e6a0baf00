/- slices.Insert at texts: it lies in the seat's Shelf. -/
import Derived.Test.YtoldfepeldbcpaaDoorShelf
