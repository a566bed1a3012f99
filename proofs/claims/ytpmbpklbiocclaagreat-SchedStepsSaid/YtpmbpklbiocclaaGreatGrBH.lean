/-
  Texts of this claim joined: Law13d, WlA, Law13v.
-/
import Derived.Test.YtpmbpklbiocclaaGreatLaw13b
import Derived.Test.YtpmbpklbiocclaaGreatGrBA
import Derived.Test.YtpmbpklbiocclaaGreatGrAA
import Derived.Test.YtpmbpklbiocclaaGreatGrAD
import Derived.Test.YtpmbpklbiocclaaGreatGrBC

namespace Go.Proofs.YtpmbpklbiocclaaGreat
open Go.RowKit

def DeepC : Prop := ∀ (w : World) (ro : Nat → Option Rl) (c b g : Nat) (x : DC) (T : Nat), Cch w ro c b g x T → T ≤ 1000 → Calls Tryz.prog 14 #[.pointer (some ⟨c, 0, none⟩)] w fun e w' => e = .returned (.int .i64 (deepC x.list : Int)) ∧ Below w.heap.size w w'
def RoundC : Prop := ∀ (w : World) (ro : Nat → Option Rl) (c b g : Nat) (x : DC) (T : Nat), Cch w ro c b g x T → T ≤ 1000 → x.base.length = 16 → Calls Tryz.prog 15 #[.pointer (some ⟨c, 0, none⟩)] w fun e w' => e = .returned (.int .i64 x.round.2) ∧ ∃ ro', Cch w' ro' c b g x.round.1 T ∧ Tr ro ro' w w'
def WorksC : Prop := ∀ w : World, Calls Tryz.prog 7 #[] w fun e w' => e = .returned (.bool true) ∧ Below w.heap.size w w'

end Go.Proofs.YtpmbpklbiocclaaGreat

namespace Go.Proofs.YtpmbpklbiocclaaGreat
open Go.RowKit


end Go.Proofs.YtpmbpklbiocclaaGreat

namespace Go.Proofs.YtpmbpklbiocclaaGreat
open Go.RowKit

def StepC : Prop := ∀ (w : World) (ro : Nat → Option Rl) (c b g : Nat) (x : DC) (T m : Nat), Cch w ro c b g x T → T ≤ 1000 → x.base.length = 16 → m < 18446744073709551616 →
    Calls Tryz.prog 10 #[.pointer (some ⟨c, 0, none⟩), .int .u64 (m : Int)] w fun e w' => e = .returned (.tuple #[.int .i64 (x.step (atB m)).2.1, .int .i64 (x.step (atB m)).2.2]) ∧ ∃ ro', Cch w' ro' c b g (x.step (atB m)).1 T ∧ Tr ro ro' w w'
theorem Well.known {x : DC} (h : Well x) (no : Int) : Well (x.known no) := by
  obtain ⟨_, f2, _, f4, f5, _⟩ := x.known_fields no
  exact ⟨f5.trans h.off, f4.trans h.fuse, by rw [f2]; exact h.len⟩

end Go.Proofs.YtpmbpklbiocclaaGreat
