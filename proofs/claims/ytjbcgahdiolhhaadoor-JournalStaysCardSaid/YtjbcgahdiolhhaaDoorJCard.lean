/- What the rows import. -/
import Derived.Test.YtjbcgahdiolhhaaDoorJRow
import Derived.Test.YtjbcgahdiolhhaaDoorCards
import Derived.Test.YtjbcgahdiolhhaaDoorTie
import Derived.SevenTiedAt
