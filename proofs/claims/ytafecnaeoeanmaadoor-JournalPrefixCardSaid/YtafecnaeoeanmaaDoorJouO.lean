/-
  Contracts of journal.Open and journal.New. Condition: at most 1000000000 bytes.
-/
import Derived.Test.YtafecnaeoeanmaaDoorJouK
set_option maxRecDepth 100000
set_option linter.unusedVariables false
set_option linter.unusedSimpArgs false
set_option linter.unnecessarySimpa false
namespace Go.Proofs.YtafecnaeoeanmaaDoor
open Go.RowKit Go.PlainAid

/-- the records of a journal that was opened -/
def openL (s : ByteArray) : List ByteArray := (decS s).take 4096
theorem open_obj {w w1 : World} {m n : Nat} {me : Value} {t : TypeId} {s : ByteArray} {u : Value} (hb : Below w.heap.size w w1) (hn : (openL s).length = n) (hm : m = n)
    (hrow : w1.ownsRow w.heap.size 9 1 u n (scells (openL s))) : OA (w1.alloc (.cells #[me, u, .int .i64 m] t)) w.heap.size w1.heap.size me t (openL s) (openL s).length u ∧ Below w.heap.size w (w1.alloc (.cells #[me, u, .int .i64 m] t)) := by
  subst hm hn
  refine ⟨⟨kbc_new w1 _, hrow.alloc _, hb.size, fun e => ?_, Nat.le_refl _, ?_, fun r hr => decS_small (List.mem_of_mem_take hr)⟩, hb.trans ((box_below w1 _).mono hb.size)⟩
  · have := (hrow.lt _ e).2; omega
  · unfold openL; rw [List.length_take]; omega
set_option maxHeartbeats 4000000 in
theorem open_s (s : ByteArray) (w : World) (hs : s.size ≤ 1000000000) (ho : WJ w) :
    Calls Tryd.prog 16 #[.string s] w fun e w' => ∃ b v, e = .returned (.pointer (some ⟨b, 0, none⟩)) ∧ JA w' w.heap.size b (openL s) (openL s).length v ∧ Below w.heap.size w w' := by
  have HO := Lib.hid ho
  clear ho
  obtain ⟨ks, hks⟩ : ∃ ks, decS s = ks := ⟨_, rfl⟩
  obtain ⟨kn, hkn⟩ : ∃ kn, szS ks = kn := ⟨_, rfl⟩
  have HK := Lib.hid (And.intro hks hkn)
  have HE := Lib.hid (show openL s = ks.take 4096 by unfold openL; rw [hks])
  clear hks hkn
  go_enter Tryd.func16, Tryd.ntmps16
  go_wp2_with fail
  refine (decode_k s ks kn _ hs HO.out HK.out.1 HK.out.2).mono ?_
  rintro e w1 ⟨u, rfl, hu, hb⟩
  rcases hu.2 with ⟨rfl, h0⟩ | ⟨g, cap, cur, rfl, _, hg, hc, hm, _⟩
  · have hk0 : ks = [] := List.eq_nil_of_length_eq_zero h0
    subst hk0
    have HR := Lib.hid (show w1.ownsRow w.heap.size 9 1 (.slice none 0 0) 0 (scells (openL s)) by rw [HE.out]; exact hu)
    have HB := Lib.hid hb
    clear hu hb h0
    go_wp2_with fail
    go_ret
    have P := open_obj (me := .pointer (some ⟨w1.heap.size, 0, none⟩)) (t := 60) (m := 0) HB.out (by rw [HE.out]; rfl) rfl HR.out
    exact ⟨_, _, rfl, P.1, P.2⟩
  · obtain ⟨m, hmm⟩ : ∃ m, min ks.length 4096 = m := ⟨_, rfl⟩
    have m1 : min (ks.length : Int) 4096 = (m : Int) := by omega
    have m2 : m ≤ ks.length := by omega
    have m3 : m ≤ cap := by omega
    have hmx : cap ≤ 9223372036854775807 := by unfold maxLen at hm; omega
    have HR := Lib.hid (show w1.ownsRow w.heap.size 9 1 (.slice (some ⟨g, 0, none⟩) m cap) m (scells (openL s)) by
      rw [HE.out, show ks.take 4096 = ks.take m by rw [← hmm, List.take_eq_take_iff]; omega]
      exact own_cut hu m m2)
    have HL := Lib.hid (show (openL s).length = m by rw [HE.out, List.length_take]; omega)
    have HB := Lib.hid hb
    clear hu hb hg hmm
    go_wp2_with fail
    go_ret
    have P := open_obj (me := .pointer (some ⟨w1.heap.size, 0, none⟩)) (t := 60) (m := m) HB.out HL.out rfl HR.out
    exact ⟨_, _, rfl, P.1, P.2⟩
theorem open_nil : openL ⟨#[]⟩ = [] := rfl
theorem new_s (w : World) (ho : WJ w) :
    Calls Tryd.prog 26 #[] w fun e w' => ∃ b v, e = .returned (.pointer (some ⟨b, 0, none⟩)) ∧ JA w' w.heap.size b [] 0 v ∧ Below w.heap.size w w' := by
  have HO := Lib.hid ho
  clear ho
  go_enter Tryd.func26, Tryd.ntmps26
  go_wp2_with fail
  refine (open_s ⟨#[]⟩ _ (by decide) HO.out).mono ?_
  rintro e w1 ⟨b, v, rfl, hj, hb⟩
  rw [open_nil] at hj
  have HJ := Lib.hid hj
  clear hj
  go_wp2_with fail
  go_ret
  exact ⟨_, _, rfl, HJ.out, hb⟩

end Go.Proofs.YtafecnaeoeanmaaDoor
