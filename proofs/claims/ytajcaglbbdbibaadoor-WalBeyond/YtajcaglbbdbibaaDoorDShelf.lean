/- The library's contracts that the device's texts name: those of the seat's other shelf. -/
import Derived.Test.YtajcaglbbdbibaaDoorSShelf
