/- The library's contracts that texts of rods want: those of ShelfP. -/
import Derived.Test.YtpchgmcegholoaaDoorShelfP
