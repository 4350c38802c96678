/-
  The edited lists stay small: for the laws Undone, Others and Normal. No condition.
-/
import Derived.Test.YtahpocpagidahaaAttG5
set_option linter.unusedVariables false
set_option linter.unusedSimpArgs false
set_option linter.unnecessarySimpa false
namespace Go.Proofs.Ytahpocpagidahaa
open Go.RowKit Go.PlainAid

theorem edit_with {l : List At} {us vs : List ByteArray} {name : ByteArray} (h : Good l) (hs : SmallS us) (hc : us.length ≤ 400) (hn : name.size ≤ 1000000) (k : GoodS vs) : Edit (withL l name us) vs := by
  have h1 := h.vals
  have h2 := h.len
  have hF : Few (wthL l (lowS name) ++ [(name, us)]) := few_with ⟨h.small, by omega, by omega, hs⟩ (lowS name) hn
  refine ⟨(few_nf hF).small, ?_, ?_, k.small, by have := k.len; omega⟩
  · have h3 := sumV_nf (wthL l (lowS name) ++ [(name, us)])
    rw [sumV_append] at h3
    have h4 := sumV_filter (fun a => decide (a.1 ≠ lowS name)) (nf l)
    have h5 := sumV_nf l
    have h6 : sumV [(name, us)] = us.length := rfl
    unfold withL
    have h7 : sumV (wthL l (lowS name)) ≤ sumV (nf l) := h4
    omega
  · have h3 := nf_len (wthL l (lowS name) ++ [(name, us)])
    rw [List.length_append, List.length_singleton] at h3
    have h4 := List.length_filter_le (fun a : At => decide (a.1 ≠ lowS name)) (nf l)
    have h5 := nf_len l
    unfold withL
    have h7 : (wthL l (lowS name)).length ≤ (nf l).length := h4
    omega
theorem smallS_app {a b : List ByteArray} (h : SmallS a) (k : SmallS b) : SmallS (a ++ b) := fun v hv => (List.mem_append.1 hv).elim (h v) (k v)
theorem small_left {a b : List ByteArray} (h : SmallS a) : SmallS (leftV a b) := fun v hv => h v (List.mem_filter.1 hv).1
theorem leftV_len (a b : List ByteArray) : (leftV a b).length ≤ a.length := List.length_filter_le _ _
theorem good_vlen {l : List At} (h : Good l) (n : ByteArray) : (vals l n).length ≤ 300 := by have := vals_len l n; have := h.vals; omega
theorem edit_add {l : List At} {vs : List ByteArray} {name : ByteArray} (h : Good l) (k : GoodS vs) (hn : name.size ≤ 1000000) (he : (addR l name vs).2 = 0) : Edit (addR l name vs).1 vs := by
  rw [(add_ok he).eq]
  exact edit_with h (smallS_app (vals_small h.small _) k.small) (by have := good_vlen h (lowS name); have := k.len; rw [List.length_append]; omega) hn k
theorem edit_rem {l : List At} {vs : List ByteArray} {name : ByteArray} (h : Good l) (k : GoodS vs) (hn : name.size ≤ 1000000) (he : (remR l name vs).2 = 0) : Edit (remR l name vs).1 vs := by
  rw [(rem_ok he).eq]
  exact edit_with h (small_left (vals_small h.small _)) (by have := good_vlen h (lowS name); have := leftV_len (vals l (lowS name)) vs; omega) hn k
theorem edit_rep {l : List At} {vs : List ByteArray} {name : ByteArray} (h : Good l) (k : GoodS vs) (hn : name.size ≤ 1000000) (he : (repR l name vs).2 = 0) : Edit (repR l name vs).1 vs := by
  rw [(rep_ok he).eq]
  exact edit_with h k.small (by have := k.len; omega) hn k
theorem add_has {l : List At} {vs : List ByteArray} {name : ByteArray} (he : (addR l name vs).2 = 0) {v : ByteArray} (hv : v ∈ vs) : memB (vals (addR l name vs).1 (lowS name)) v = true := by
  rw [(add_ok he).eq, vals_with, memB_iff, sortU_mem]
  exact List.mem_append.2 (.inr hv)
theorem rep_has {l : List At} {vs : List ByteArray} {name : ByteArray} (he : (repR l name vs).2 = 0) {v : ByteArray} (hv : v ∈ vs) : memB (vals (repR l name vs).1 (lowS name)) v = true := by
  rw [(rep_ok he).eq, vals_with, memB_iff, sortU_mem]
  exact hv
theorem rep_len {l : List At} {vs : List ByteArray} {name : ByteArray} (he : (repR l name vs).2 = 0) : (vals (repR l name vs).1 (lowS name)).length = vs.length := by
  rw [(rep_ok he).eq, vals_with]
  exact sortU_len_new (rep_ok he).fit.nd
theorem add_other {l : List At} {vs : List ByteArray} {name n : ByteArray} (he : (addR l name vs).2 = 0) (h : n ≠ lowS name) : vals (addR l name vs).1 n = vals l n := by rw [(add_ok he).eq]; exact vals_other h
theorem rem_other {l : List At} {vs : List ByteArray} {name n : ByteArray} (he : (remR l name vs).2 = 0) (h : n ≠ lowS name) : vals (remR l name vs).1 n = vals l n := by rw [(rem_ok he).eq]; exact vals_other h
theorem rep_other {l : List At} {vs : List ByteArray} {name n : ByteArray} (he : (repR l name vs).2 = 0) (h : n ≠ lowS name) : vals (repR l name vs).1 n = vals l n := by rw [(rep_ok he).eq]; exact vals_other h

end Go.Proofs.Ytahpocpagidahaa
