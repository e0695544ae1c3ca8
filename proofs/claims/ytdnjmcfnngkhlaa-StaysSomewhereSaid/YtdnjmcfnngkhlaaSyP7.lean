/- Package stays, whole: the bundle's value. No condition. -/
import Derived.Test.YtdnjmcfnngkhlaaSyP6
namespace Go.Proofs.Ytdnjmcfnngkhlaa
open Go.RowKit

namespace Sy
theorem sface : Face :=
  { enter := fun p n c S z now w h hn hnc hm hz => penter_yes p n c S z now w h hn hnc hm hz
    enter_no := fun p n c S z now w h hn hm => penter_no p n c S z now w h hn hm
    leave := fun p n c S now w h hn hnc hm hO => pleave_yes p n c S now w h hn hnc hm hO
    leave_no := fun p n c S now w h hn hm => pleave_no p n c S now w h hn hm
    zone := fun p n c S m w h hn => pzone_any p n c S m w h hn
    right := fun p n c S w h hn => pright_any p n c S w h hn
    minutes := fun p n c S m w h hn hnc hm => pminutes_any p n c S m w h hn hnc hm
    upto := fun p n c S m w h hn hnc => pupto_any p n c S m w h hn hnc
    same := fun p q n m c d l l2 w h h2 hn => psame_any p q n m c d l l2 w hn h h2 }
end Sy
end Go.Proofs.Ytdnjmcfnngkhlaa
