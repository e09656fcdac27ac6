/- The number of a name: contracts of spec.CountOf and impl.CountOf. No condition. -/
import Derived.Test.YtaceiebmgnhdgaaGreatDoorCof
namespace Go.Proofs.YtaceiebmgnhdgaaGreatDoor
open Go.RowKit

set_option maxHeartbeats 1000000 in
theorem sz5_any (b : Nat) (ao : Option Addr) (n cap : Nat) (xs : List Int) (w : World) (h : Sl w ao n cap xs) (hb : BoxAt w b 91 67) :
    Calls Tryz.prog 118 #[.slice ao n cap, .pointer (some ⟨b, 0, none⟩)] w (Says w (.int .i64 ((onV xs (desc xs)).length : Int))) := by
  have hc := hb.cell
  go_enter Tryz.func118, Tryz.ntmps118
  go_wp2_with fail
  refine (descI_any _ _ _ xs _ h).mono ?_
  rintro e w' ⟨u, rfl, o, bl⟩
  obtain ⟨ad, cp, rfl, sl⟩ := o.sl
  clear o
  go_wp2
  go_ret
  exact ⟨rfl, bl⟩

set_option maxHeartbeats 1000000 in
theorem sz6_any (b : Nat) (ao : Option Addr) (n cap : Nat) (xs : List Int) (w : World) (h : Sl w ao n cap xs) (hb : BoxAt w b 92 67) :
    Calls Tryz.prog 118 #[.slice ao n cap, .pointer (some ⟨b, 0, none⟩)] w (Says w (.int .i64 ((onV xs (above xs)).length : Int))) := by
  have hc := hb.cell
  go_enter Tryz.func118, Tryz.ntmps118
  go_wp2_with fail
  refine (aboveI_any _ _ _ xs _ h).mono ?_
  rintro e w' ⟨u, rfl, o, bl⟩
  obtain ⟨ad, cp, rfl, sl⟩ := o.sl
  clear o
  go_wp2
  go_ret
  exact ⟨rfl, bl⟩

set_option maxHeartbeats 1000000 in
theorem sz7_any (b : Nat) (ao : Option Addr) (n cap : Nat) (xs : List Int) (w : World) (h : Sl w ao n cap xs) (hb : BoxAt w b 93 67) :
    Calls Tryz.prog 118 #[.slice ao n cap, .pointer (some ⟨b, 0, none⟩)] w (Says w (.int .i64 ((onV xs (records xs)).length : Int))) := by
  have hc := hb.cell
  go_enter Tryz.func118, Tryz.ntmps118
  go_wp2_with fail
  refine (recordsI_any _ _ _ xs _ h).mono ?_
  rintro e w' ⟨u, rfl, o, bl⟩
  obtain ⟨ad, cp, rfl, sl⟩ := o.sl
  clear o
  go_wp2
  go_ret
  exact ⟨rfl, bl⟩

set_option maxHeartbeats 1000000 in
theorem sz8_any (b : Nat) (ao : Option Addr) (n cap : Nat) (xs : List Int) (w : World) (h : Sl w ao n cap xs) (hb : BoxAt w b 95 92) :
    Calls Tryz.prog 121 #[.slice ao n cap, .pointer (some ⟨b, 0, none⟩)] w (Says w (.int .i64 ((onVL xs (circles xs)).length : Int))) := by
  have hc := hb.cell
  go_enter Tryz.func121, Tryz.ntmps121
  go_wp2_with fail
  refine (circlesI_any _ _ _ xs _ h).mono ?_
  rintro e w' ⟨u, rfl, o, bl⟩
  obtain ⟨ad, cp, rfl, sl⟩ := o.sl
  clear o
  go_wp2
  go_ret
  exact ⟨rfl, bl⟩

end Go.Proofs.YtaceiebmgnhdgaaGreatDoor
