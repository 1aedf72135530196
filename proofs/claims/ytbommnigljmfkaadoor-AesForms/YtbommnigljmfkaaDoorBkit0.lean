/- The kit of lists of bytes, whole, under its shorter text's name. -/
import Derived.Test.YtbommnigljmfkaaDoorBkit
