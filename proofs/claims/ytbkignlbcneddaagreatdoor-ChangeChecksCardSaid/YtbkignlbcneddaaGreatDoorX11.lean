/-
  Texts of the schema layer and of those beneath it, joined: CsnF7, CsnF8, CsnF9, CsnB, CsnC1, ShelfF, CsnC2, CsnC3. Conditions stand at each contract.
-/
import Derived.Deep.QuietTactic
import Derived.BigQuiet
import Derived.Laws.NewBlocks
import Derived.Shelf.SlicesQ.IndexFunc
import Derived.Lib.SliceRun
import Derived.Lib.SlBy
import Derived.Test.YtbkignlbcneddaaGreatDoorProg
import Derived.Test.YtbkignlbcneddaaGreatDoorX01
import Derived.Test.YtbkignlbcneddaaGreatDoorX10
set_option linter.unusedVariables false
set_option linter.unusedSimpArgs false
set_option linter.unnecessarySimpa false

section
/-
  Contract of the specification's number. Condition: words of at most 15 bytes.
-/
set_option maxRecDepth 100000
set_option maxRecDepth 100000
namespace Go.Proofs.YtbkignlbcneddaaGreatDoor
namespace Csn
open Go.RowKit Go.PlainAid
/-- the digit that has been found among the first k -/
def dgI (c : UInt8) (k : Nat) : Int := match hexO c with
  | some d => if d < k then (d : Int) else -1
  | none => -1
theorem dgI_zero (c : UInt8) : dgI c 0 = -1 := by
  unfold dgI
  cases hexO c with
  | none => rfl
  | some d => exact if_neg (Nat.not_lt_zero _)
theorem dgI_all (c : UInt8) : dgI c 16 = match hexO c with
  | some d => (d : Int)
  | none => -1 := by
  unfold dgI
  cases h : hexO c with
  | none => rfl
  | some d => exact if_pos (hexO_lt h)
theorem hexO_iff {c : UInt8} {k : Nat} (h : k < 16) : hexO c = some k ↔ hexD k = c := ⟨fun e => hexD_hexO e, fun e => by rw [← e]; exact hexO_hexD k h⟩
theorem dgI_step (c : UInt8) (k : Nat) (h : k < 16) : dgI c (k + 1) = if hexD k = c then (k : Int) else dgI c k := by
  unfold dgI
  cases e : hexO c with
  | none => rw [if_neg (fun q => by rw [(hexO_iff h).2 q] at e; cases e)]
  | some d =>
    by_cases q : hexD k = c
    · have := (hexO_iff h).2 q
      rw [e] at this
      have hd : d = k := Option.some.inj this
      subst hd
      simp only [if_pos q]
      rw [if_pos (by omega)]
    · have hd : d ≠ k := fun k2 => q ((hexO_iff h).1 (by rw [e, k2]))
      simp only [if_neg q]
      by_cases l : d < k
      · rw [if_pos l, if_pos (by omega)]
      · rw [if_neg l, if_neg (by omega)]
def numI (l : List UInt8) : Int := match rdA 0 l with
  | some n => (n : Int)
  | none => -1
theorem rdA_bound {l : List UInt8} {n : Nat} (h : rdA 0 l = some n) (hl : l.length ≤ 14) : n < 72057594037927936 := Nat.lt_of_lt_of_le (rdA_lt h) (pow16_le hl)
theorem u8_beq (a b : UInt8) : ((a.toNat : Int) == (b.toNat : Int)) = decide (a = b) := by
  rw [Bool.eq_iff_iff, beq_iff_eq, decide_eq_true_iff]
  constructor
  · intro h; exact UInt8.toNat_inj.1 (by omega)
  · intro h; rw [h]
set_option maxHeartbeats 8000000 in
theorem number_s (s : ByteArray) (w : World) (hs : s.size ≤ 15) :
    Calls Tryz.prog 97 #[.string s] w fun e w' => e = .returned (.int .i64 (numI s.data.toList)) ∧ Below w.heap.size w w' := by
  have hb := get_bt s
  have hx := get_bt (⟨#[48, 49, 50, 51, 52, 53, 54, 55, 56, 57, 97, 98, 99, 100, 101, 102]⟩ : ByteArray)
  go_enter Tryz.func97, Tryz.ntmps97
  go_wp2_with fail
  go_loopw [3, 4] (fun nv iv wr => ∃ i a : Nat, i ≤ s.size ∧ iv = .int .i64 i ∧ nv = .int .i64 a ∧ Hid (rdA 0 (s.data.toList.take i) = some a) ∧ Hid (Below w.heap.size w wr)) (fun _ iv _ => s.size - (intOf iv).toNat)
  case atStart => exact ⟨0, 0, Nat.zero_le _, rfl, rfl, Lib.hid rfl, Lib.hid (Below.refl _ _)⟩
  case round =>
    obtain ⟨i, a, hi, rfl, rfl, HR, HB⟩ := hrel
    rename World => Z0
    by_cases hlt : i < s.size
    · have d1 : (i : Int) < (s.size : Int) := by omega
      have HC := Lib.hid (bt_chr s i)
      have ha : a < 72057594037927936 := rdA_bound HR.out (by rw [List.length_take]; omega)
      have HT := Lib.hid (show rdA 0 (s.data.toList.take (i + 1)) = (hexO (chr s i)).map (a * 16 + ·) by
        rw [take_chr s i hlt, rdA_snoc, HR.out]; rfl)
      go_wp2_with fail
      go_loopw [5, 6] (fun dv kv W => ∃ k : Nat, k ≤ 16 ∧ kv = .int .i64 k ∧ dv = .int .i64 (dgI (chr s i) k) ∧ Hid (Below Z0.heap.size Z0 W)) (fun _ kv _ => 16 - (intOf kv).toNat)
      case atStart => exact ⟨0, Nat.zero_le _, rfl, by rw [dgI_zero], Lib.hid (Below.refl _ _)⟩
      case round =>
        obtain ⟨k, hk, rfl, rfl, HW⟩ := hrel
        by_cases hk16 : k < 16
        · have e0 : (k : Int) < 16 := by omega
          have hkey : (bt (⟨#[48, 49, 50, 51, 52, 53, 54, 55, 56, 57, 97, 98, 99, 100, 101, 102]⟩ : ByteArray) k == bt s i) = decide (hexD k = chr s i) := by
            rw [show bt (⟨#[48, 49, 50, 51, 52, 53, 54, 55, 56, 57, 97, 98, 99, 100, 101, 102]⟩ : ByteArray) k = ((hexD k).toNat : Int) from hexLowC_at k hk16, HC.out, u8_beq]
          by_cases q : hexD k = chr s i
          · have HD := Lib.hid (show dgI (chr s i) (k + 1) = (k : Int) by rw [dgI_step _ _ hk16, if_pos q])
            rw [decide_eq_true q] at hkey
            clear q
            go_wp2_with fail
            go_quiet (fail)
            generalize hW1 : World.drewN wr _ = W1
            have HW1 := Lib.hid (show Below Z0.heap.size Z0 W1 by rw [← hW1]; exact HW.out.trans ⟨rfl, rfl, rfl, Nat.le_refl _, fun _ _ => rfl⟩)
            clear hW1
            go_wp2_with fail
            go_roundw
            case rel => exact ⟨k + 1, by omega, by go_num, by rw [HD.out], HW1⟩
            case measure => simp [intOf]; omega
          · have HD := Lib.hid (show dgI (chr s i) (k + 1) = dgI (chr s i) k by rw [dgI_step _ _ hk16, if_neg q])
            rw [decide_eq_false q] at hkey
            clear q
            go_wp2_with fail
            go_quiet (fail)
            generalize hW1 : World.drewN wr _ = W1
            have HW1 := Lib.hid (show Below Z0.heap.size Z0 W1 by rw [← hW1]; exact HW.out.trans ⟨rfl, rfl, rfl, Nat.le_refl _, fun _ _ => rfl⟩)
            clear hW1
            go_wp2_with fail
            go_roundw
            case rel => exact ⟨k + 1, by omega, by go_num, by rw [HD.out], HW1⟩
            case measure => simp [intOf]; omega
        · obtain rfl : k = 16 := by omega
          rw [dgI_all]
          have HW1 := Lib.hid (HB.out.trans (HW.out.mono HB.out.size))
          cases ho : hexO (chr s i) with
          | none =>
            have HF := Lib.hid (show numI s.data.toList = -1 by
              unfold numI
              rw [← List.take_append_drop (i + 1) s.data.toList, rdA_none_append _ _ _ (by rw [HT.out, ho]; rfl)])
            clear ho
            go_wp2_with fail
            go_ret
            exact ⟨by rw [HF.out]; rfl, HW1.out⟩
          | some d =>
            have hd := hexO_lt ho
            have d0 : decide ((d : Int) < 0) = false := decide_eq_false (by omega)
            have HN := Lib.hid (show rdA 0 (s.data.toList.take (i + 1)) = some (a * 16 + d) by rw [HT.out, ho]; rfl)
            clear ho
            go_wp2_with fail
            go_roundw
            case rel => exact ⟨i + 1, a * 16 + d, by omega, by go_num, by rw [show ((a * 16 + d : Nat) : Int) = 16 * (a : Int) + (d : Int) by omega], HN, HW1⟩
            case measure => simp [intOf]; omega
    · have HF := Lib.hid (show numI s.data.toList = (a : Int) by
        have := HR.out
        rw [List.take_of_length_le (by rw [← Lib.size_eq]; omega)] at this
        unfold numI
        rw [this])
      have d1 : ¬ (i : Int) < (s.size : Int) := by omega
      go_wp2_with fail
      go_ret
      exact ⟨by rw [HF.out]; rfl, HB.out⟩
end Csn
end Go.Proofs.YtbkignlbcneddaaGreatDoor
end

section
/-
  Contract of csn.readDigits. Condition: words of at most 15 bytes are read; any width of at most 15.
-/
set_option maxRecDepth 100000
set_option maxRecDepth 100000
namespace Go.Proofs.YtbkignlbcneddaaGreatDoor
namespace Csn
open Go.RowKit Go.PlainAid
theorem idxC_table : ∀ n : Nat, n < 256 → Lib.indexByte hexLowC.data.toList (UInt8.ofNat n) = (match hexO (UInt8.ofNat n) with
  | some d => (d : Int)
  | none => -1) := by decide +kernel
theorem idxC (c : UInt8) : Lib.indexByte hexLowC.data.toList c = (match hexO c with
  | some d => (d : Int)
  | none => -1) := by
  have := idxC_table c.toNat c.toNat_lt
  rwa [UInt8.ofNat_toNat] at this
theorem idxC_k (c : UInt8) (v x : Int) (w : World) (hv : v = (c.toNat : Int)) (hx : (match hexO c with
  | some d => (d : Int)
  | none => -1) = x) :
    Calls Tryz.prog 167 #[.string ⟨#[48, 49, 50, 51, 52, 53, 54, 55, 56, 57, 97, 98, 99, 100, 101, 102]⟩, .int .u8 v] w fun e w' => e = .returned (.int .i64 x) ∧ w = w' := by
  subst hv hx
  refine (Tryz.strings_IndexByte hexLowC (c.toNat : Int) w).mono fun e w' h => ⟨?_, h.2.symm⟩
  rw [h.1, show ((c.toNat : Int).toNat).toUInt8 = c by rw [Int.toNat_natCast]; exact UInt8.ofNat_toNat, idxC]
theorem or16i (a d : Nat) (ha : a < 72057594037927936) (hd : d < 16) : bits .or .i64 ((a : Int) * 16) (d : Int) = (a : Int) * 16 + (d : Int) :=
  bits_join .i64 63 (by decide) (fun n h0 h1 => by rw [IntKind.wrap_i64]; omega) 4 ((a : Int) * 16) (d : Int) (by omega) (by omega) (by omega) (by omega) (by omega) (by omega)
def rdgV (k : Nat) (s : ByteArray) : Int := match wrdC k s.data.toList with
  | some n => (n : Int)
  | none => 0
def rdgB (k : Nat) (s : ByteArray) : Bool := (wrdC k s.data.toList).isSome
theorem rdg_no {k : Nat} {s : ByteArray} (h : wrdC k s.data.toList = none) : rdgV k s = 0 ∧ rdgB k s = false := by unfold rdgV rdgB; rw [h]; exact ⟨rfl, rfl⟩
theorem rdg_of {k n : Nat} {s : ByteArray} (h : wrdC k s.data.toList = some n) : rdgV k s = (n : Int) ∧ rdgB k s = true := by unfold rdgV rdgB; rw [h]; exact ⟨rfl, rfl⟩
set_option maxHeartbeats 4000000 in
theorem readDig_s (s : ByteArray) (k : Nat) (w : World) (hs : s.size ≤ 1000000000) (hk : k ≤ 15) :
    Calls Tryz.prog 131 #[.string s, .int .i64 k] w fun e w' => e = .returned (.tuple #[.int .i64 (rdgV k s), .bool (rdgB k s)]) ∧ w = w' := by
  by_cases hz : s.size = k
  · have hb := get_bt s
    have e0 : ((s.size : Int) != (k : Int)) = false := by rw [hz]; simp
    have HZ := Lib.hid hz
    have hsk : s.size ≤ 15 := by omega
    clear hz
    go_enter Tryz.func131, Tryz.ntmps131
    go_wp2_with fail
    go_loop [6, 15] (fun nv iv => ∃ i a : Nat, i ≤ s.size ∧ iv = .int .i64 i ∧ nv = .int .i64 a ∧ Hid (rdA 0 (s.data.toList.take i) = some a)) (fun _ iv => s.size - (intOf iv).toNat)
    case atStart => exact ⟨0, 0, Nat.zero_le _, rfl, rfl, Lib.hid rfl⟩
    case round =>
      obtain ⟨i, a, hi, rfl, rfl, HR⟩ := hrel
      by_cases hlt : i < s.size
      · have d1 : (i : Int) < (s.size : Int) := by omega
        have HC := Lib.hid (bt_chr s i)
        have ha : a < 72057594037927936 := rdA_bound HR.out (by rw [List.length_take]; omega)
        have HT := Lib.hid (show rdA 0 (s.data.toList.take (i + 1)) = (hexO (chr s i)).map (a * 16 + ·) by
          rw [take_chr s i hlt, rdA_snoc, HR.out]; rfl)
        cases ho : hexO (chr s i) with
        | none =>
          have HF := Lib.hid (rdg_no (k := k) (s := s) (by
            unfold wrdC
            rw [if_pos (by rw [← Lib.size_eq]; exact HZ.out), ← List.take_append_drop (i + 1) s.data.toList, rdA_none_append _ _ _ (by rw [HT.out, ho]; rfl)]))
          have HI := Lib.hid (idxC_k (chr s i) (bt s i) (-1) w HC.out (by rw [ho]))
          clear ho
          go_wp2_with (go_at_call 167; refine HI.out.mono ?_; rintro e w' ⟨rfl, rfl⟩)
          go_ret2
          exact ⟨by rw [HF.out.1, HF.out.2]; rfl, rfl⟩
        | some d =>
          have hd := hexO_lt ho
          have HI := Lib.hid (idxC_k (chr s i) (bt s i) (d : Int) w HC.out (by rw [ho]))
          have HN := Lib.hid (show rdA 0 (s.data.toList.take (i + 1)) = some (a * 16 + d) by rw [HT.out, ho]; rfl)
          have hor := or16i a d ha hd
          have d0 : decide ((d : Int) < 0) = false := decide_eq_false (by omega)
          clear ho
          go_wp2_with (go_at_call 167; refine HI.out.mono ?_; rintro e w' ⟨rfl, rfl⟩)
          go_round
          case rel => exact ⟨i + 1, a * 16 + d, by omega, by go_num, by go_num, HN⟩
          case measure => simp [intOf]; omega
      · have HF := Lib.hid (rdg_of (k := k) (s := s) (n := a) (by
          have := HR.out
          rw [List.take_of_length_le (by rw [← Lib.size_eq]; omega)] at this
          unfold wrdC
          rw [if_pos (by rw [← Lib.size_eq]; exact HZ.out), this]))
        have d1 : ¬ (i : Int) < (s.size : Int) := by omega
        go_wp2_with fail
        go_ret2
        exact ⟨by rw [HF.out.1, HF.out.2]; rfl, rfl⟩
  · have e0 : ((s.size : Int) != (k : Int)) = true := by simpa using fun h => hz (by omega)
    have HF := Lib.hid (rdg_no (k := k) (s := s) (if_neg (by rw [← Lib.size_eq]; exact hz)))
    clear hz
    go_enter Tryz.func131, Tryz.ntmps131
    go_wp2_with fail
    go_ret2
    exact ⟨by rw [HF.out.1, HF.out.2]; rfl, rfl⟩
end Csn
end Go.Proofs.YtbkignlbcneddaaGreatDoor
end

section
/-
  Contract of csn.Parse. Condition: strings of at most 1000000 bytes; the package's word as the card says.
-/
set_option maxRecDepth 100000
set_option maxRecDepth 100000
namespace Go.Proofs.YtbkignlbcneddaaGreatDoor
namespace Csn
open Go.RowKit Go.PlainAid
def bfS (s : ByteArray) : ByteArray := ⟨(bfC s.data.toList).toArray⟩
def afS (s : ByteArray) : ByteArray := ⟨(afC s.data.toList).toArray⟩
theorem cutl_len (l : List UInt8) : (bfC l).length ≤ l.length ∧ (afC l).length ≤ l.length := by
  unfold bfC afC Lib.cut
  split
  · dsimp only
    rw [List.length_take, List.length_drop]; omega
  · exact ⟨Nat.le_refl _, Nat.zero_le _⟩
theorem bfS_size (s : ByteArray) : (bfS s).size ≤ s.size := by
  unfold bfS
  rw [Lib.size_mk, Lib.size_eq s]; exact (cutl_len _).1
theorem afS_size (s : ByteArray) : (afS s).size ≤ s.size := by
  unfold afS
  rw [Lib.size_mk, Lib.size_eq s]; exact (cutl_len _).2
theorem cut45_s (s x y : ByteArray) (w : World) (hs : s.size ≤ 1000000000) (hm : MaxOk w) (hx : bfS s = x) (hy : afS s = y) :
    Calls Tryz.prog 64 #[.string s, .string ⟨#[45]⟩] w fun e w' => ∃ b, e = .returned (.tuple #[.string x, .string y, .bool b]) ∧ ∃ n, w' = w.drewN n := by
  obtain ⟨m, hm⟩ := hm
  subst hx; subst hy
  exact (Tryz.strings_Cut s ⟨#[45]⟩ m w (by omega) hm).mono fun e w' h => ⟨_, h.1, h.2⟩
theorem par_prog (s : ByteArray) :
    (rdgB 11 (bfS s) = true ∧ rdgB 8 (bfS (afS s)) = true ∧ rdgB 1 (afS (afS s)) = true ∧ parR s.data.toList = some (rdgV 11 (bfS s), rdgV 8 (bfS (afS s)), rdgV 1 (afS (afS s))))
    ∨ (¬ (rdgB 11 (bfS s) = true ∧ rdgB 8 (bfS (afS s)) = true ∧ rdgB 1 (afS (afS s)) = true) ∧ parR s.data.toList = none) := by
  have e := par_cut s.data.toList
  unfold rdgB rdgV
  show (_ ∧ _ ∧ _ ∧ _) ∨ _
  have e1 : (bfS s).data.toList = bfC s.data.toList := rfl
  have e2 : (bfS (afS s)).data.toList = bfC (afC s.data.toList) := rfl
  have e3 : (afS (afS s)).data.toList = afC (afC s.data.toList) := rfl
  rw [e1, e2, e3]
  rw [e]
  cases wrdC 11 (bfC s.data.toList) with
  | none => exact .inr ⟨fun h => (by cases h.1), rfl⟩
  | some a =>
    cases wrdC 8 (bfC (afC s.data.toList)) with
    | none => exact .inr ⟨fun h => (by cases h.2.1), rfl⟩
    | some b =>
      cases wrdC 1 (afC (afC s.data.toList)) with
      | none => exact .inr ⟨fun h => (by cases h.2.2), rfl⟩
      | some c => exact .inl ⟨rfl, rfl, rfl, rfl⟩
theorem par_none {l : List UInt8} (h : parR l = none) : parEC l = 4 ∧ parVC l = (0, 0, 0) := by unfold parEC parVC; rw [h]; exact ⟨rfl, rfl⟩
theorem par_bad {l : List UInt8} {c : Cn} (h : parR l = some c) (k : ¬ Vld c) : parEC l = 27 ∧ parVC l = (0, 0, 0) := by
  unfold parEC parVC; rw [h]; simp only [if_neg k, and_self]
theorem par_good {l : List UInt8} {c : Cn} (h : parR l = some c) (k : Vld c) : parEC l = 0 ∧ parVC l = c := by
  unfold parEC parVC; rw [h]; simp only [if_pos k, and_self]
theorem below_drawsN {B : Nat} {w w' : World} (h : Below B w w') (n : Nat) : Below B w (w'.drewN n) := h.trans ⟨rfl, rfl, rfl, Nat.le_refl _, fun _ _ => rfl⟩
theorem below_set3 {B : Nat} {w X : World} (h : Below B w X) (hB : B ≤ X.heap.size) {b : Nat} (hb : B ≤ b) (v0 v1 v2 : Value) :
    Below B w (((X.setCell ⟨b, 0, none⟩ v0).setCell ⟨b, 1, none⟩ v1).setCell ⟨b, 2, none⟩ v2) ∧ B ≤ (((X.setCell ⟨b, 0, none⟩ v0).setCell ⟨b, 1, none⟩ v1).setCell ⟨b, 2, none⟩ v2).heap.size :=
  ⟨((h.setCell (p := ⟨b, 0, none⟩) hb _).setCell (p := ⟨b, 1, none⟩) hb _).setCell (p := ⟨b, 2, none⟩) hb _, by simp; exact hB⟩
theorem below_al2 {B : Nat} {w X : World} (h : Below B w X ∧ B ≤ X.heap.size) (o p : Obj) : Below B w ((X.alloc o).alloc p) := below_allocs [o, p] _ _ _ h.1 h.2
theorem readDig_k (s : ByteArray) (k : Nat) (kv v : Int) (b : Bool) (w : World) (hs : s.size ≤ 1000000000) (hk : k ≤ 15) (hkv : kv = (k : Int)) (hv : rdgV k s = v) (hb : rdgB k s = b) :
    Calls Tryz.prog 131 #[.string s, .int .i64 kv] w fun e w' => e = .returned (.tuple #[.int .i64 v, .bool b]) ∧ w = w' := by subst hkv; subst hv; subst hb; exact readDig_s s k w hs hk
set_option maxHeartbeats 8000000 in
theorem parse_s (s : ByteArray) (w : World) (hs : s.size ≤ 1000000) (ho : MaxOk w) :
    Calls Tryz.prog 93 #[.string s] w fun e w' => e = .returned (.tuple #[cnV (parVC s.data.toList), .int .i64 (parEC s.data.toList)]) ∧ Below w.heap.size w w' := by
  have HP := Lib.hid (par_prog s)
  have z1 := bfS_size s
  have z2 := afS_size s
  have z3 := bfS_size (afS s)
  have z4 := afS_size (afS s)
  obtain ⟨x, hx⟩ : ∃ x, bfS s = x := ⟨_, rfl⟩
  obtain ⟨y, hy⟩ : ∃ x, afS s = x := ⟨_, rfl⟩
  have HC1 := Lib.hid (fun W h => cut45_s s x y W (by omega) h hx hy)
  rw [hx, hy] at HP
  rw [hx] at z1
  rw [hy] at z2 z3 z4
  clear hx hy
  obtain ⟨u, hu⟩ : ∃ x, bfS y = x := ⟨_, rfl⟩
  obtain ⟨v, hv⟩ : ∃ x, afS y = x := ⟨_, rfl⟩
  have HC2 := Lib.hid (fun W h => cut45_s y u v W (by omega) h hu hv)
  rw [hu, hv] at HP
  rw [hu] at z3
  rw [hv] at z4
  clear hu hv
  obtain ⟨c1, hc1⟩ : ∃ q, rdgV 11 x = q := ⟨_, rfl⟩
  obtain ⟨c2, hc2⟩ : ∃ q, rdgV 8 u = q := ⟨_, rfl⟩
  obtain ⟨c3, hc3⟩ : ∃ q, rdgV 1 v = q := ⟨_, rfl⟩
  obtain ⟨k1, hk1⟩ : ∃ q, rdgB 11 x = q := ⟨_, rfl⟩
  obtain ⟨k2, hk2⟩ : ∃ q, rdgB 8 u = q := ⟨_, rfl⟩
  obtain ⟨k3, hk3⟩ : ∃ q, rdgB 1 v = q := ⟨_, rfl⟩
  rw [hc1, hc2, hc3, hk1, hk2, hk3] at HP
  have HR1 := Lib.hid (fun W => readDig_k x 11 11 c1 k1 W (by omega) (by omega) rfl hc1 hk1)
  have HR2 := Lib.hid (fun W => readDig_k u 8 8 c2 k2 W (by omega) (by omega) rfl hc2 hk2)
  have HR3 := Lib.hid (fun W => readDig_k v 1 1 c3 k3 W (by omega) (by omega) rfl hc3 hk3)
  clear hc1 hc2 hc3 hk1 hk2 hk3 z1 z2 z3 z4
  have HO := Lib.hid ho
  clear ho
  go_enter Tryz.func93, Tryz.ntmps93
  go_wp2_with fail
  refine (HC1.out _ (HO.out.below (box_below _ _) HO.out.lt)).mono ?_
  rintro e w1 ⟨b1, rfl, n1, rfl⟩
  go_wp2_with fail
  refine (HC2.out _ (HO.out.below (below_drawsN (box_below _ _) n1) HO.out.lt)).mono ?_
  rintro e w2 ⟨b2, rfl, n2, rfl⟩
  have HB := Lib.hid (fun v0 v1 v2 => below_set3 (below_drawsN (box_below w (.cells #[.int .i64 0, .int .i64 0, .int .i64 0] 23)) (n1 + n2)) (Nat.le_of_lt (box_lt w (.cells #[.int .i64 0, .int .i64 0, .int .i64 0] 23))) (Nat.le_refl w.heap.size) v0 v1 v2)
  go_wp2_with fail
  refine (HR1.out _).mono ?_
  rintro e w' ⟨rfl, rfl⟩
  go_wp2_with fail
  refine (HR2.out _).mono ?_
  rintro e w' ⟨rfl, rfl⟩
  go_wp2_with fail
  refine (HR3.out _).mono ?_
  rintro e w' ⟨rfl, rfl⟩
  cases k1
  · skip
    have HF := Lib.hid (par_none (show parR s.data.toList = none from HP.out.elim (fun h => (by cases h.1)) (fun h => h.2)))
    go_wp2_with fail
    refine bodyPost_ret (v := .tuple #[.agg #[.int .i64 0, .int .i64 0, .int .i64 0], .int .i64 4]) (by simp [results, Tryz.results93, go_sem]) rfl ⟨by rw [HF.out.1, HF.out.2]; rfl, ?_⟩
    exact (HB.out _ _ _).1
  · cases k2
    · skip
      have HF := Lib.hid (par_none (show parR s.data.toList = none from HP.out.elim (fun h => (by cases h.2.1)) (fun h => h.2)))
      go_wp2_with fail
      refine bodyPost_ret (v := .tuple #[.agg #[.int .i64 0, .int .i64 0, .int .i64 0], .int .i64 4]) (by simp [results, Tryz.results93, go_sem]) rfl ⟨by rw [HF.out.1, HF.out.2]; rfl, ?_⟩
      exact (HB.out _ _ _).1
    · cases k3
      · skip
        have HF := Lib.hid (par_none (show parR s.data.toList = none from HP.out.elim (fun h => (by cases h.2.2.1)) (fun h => h.2)))
        go_wp2_with fail
        refine bodyPost_ret (v := .tuple #[.agg #[.int .i64 0, .int .i64 0, .int .i64 0], .int .i64 4]) (by simp [results, Tryz.results93, go_sem]) rfl ⟨by rw [HF.out.1, HF.out.2]; rfl, ?_⟩
        exact (HB.out _ _ _).1
      · have HR := Lib.hid (show parR s.data.toList = some (c1, c2, c3) from HP.out.elim (fun h => h.2.2.2) (fun h => absurd ⟨rfl, rfl, rfl⟩ h.1))
        clear HP
        have hv1 := vld_k (c1, c2, c3)
        dsimp only at hv1
        cases hv : vldC (c1, c2, c3)
        · have HF := Lib.hid (par_bad HR.out (fun k => by rw [(vldC_iff _).2 k] at hv; cases hv))
          go_wp2_with fail
          refine (hv1 _ _ hv).mono ?_
          rintro e w' ⟨rfl, rfl⟩
          go_wp2_with fail
          refine bodyPost_ret (v := .tuple #[.agg #[.int .i64 0, .int .i64 0, .int .i64 0], .int .i64 27]) (by simp [results, Tryz.results93, go_sem]) rfl ⟨by rw [HF.out.1, HF.out.2]; rfl, ?_⟩
          exact below_al2 (HB.out _ _ _) _ _
        · have HF := Lib.hid (par_good HR.out ((vldC_iff _).1 hv))
          go_wp2_with fail
          refine (hv1 _ _ hv).mono ?_
          rintro e w' ⟨rfl, rfl⟩
          go_wp2_with fail
          refine bodyPost_ret (v := .tuple #[.agg #[.int .i64 c1, .int .i64 c2, .int .i64 c3], .int .i64 0]) (by simp [results, Tryz.results93, go_sem]) rfl ⟨by rw [HF.out.1, HF.out.2]; rfl, ?_⟩
          exact below_al2 (HB.out _ _ _) _ _
end Csn
end Go.Proofs.YtbkignlbcneddaaGreatDoor
end

section
/-
  Boxes: what a block holds, kept while the world grows above it. No condition.
-/
set_option maxRecDepth 100000
set_option maxRecDepth 100000
namespace Go.Proofs.YtbkignlbcneddaaGreatDoor
namespace Csn
open Go.RowKit Go.PlainAid
def KbC (W : World) (b : Nat) (o : Obj) : Prop := W.heap[b]? = some o
theorem KbC.big {W : World} {b : Nat} {o : Obj} (h : KbC W b o) : b < W.heap.size := by
  rcases Nat.lt_or_ge b W.heap.size with k | k
  · exact k
  · unfold KbC at h; rw [Array.getElem?_eq_none k] at h; cases h
theorem KbC.step {W V : World} {b : Nat} {o : Obj} (h : KbC W b o) (hb : Below W.heap.size W V) : KbC V b o := (hb.block b h.big).trans h
theorem KbC.keep {W V : World} {b B : Nat} {o : Obj} (h : KbC W b o) (hb : Below B W V) (hB : b < B) : KbC V b o := (hb.block b hB).trans h
theorem kbc_new (W : World) (o : Obj) : KbC (W.alloc o) W.heap.size o := heap_alloc_new W o
theorem kbc_of {f : Nat} {w V : World} {o : Obj} (_ : Below f w (V.alloc o)) : KbC (V.alloc o) V.heap.size o := heap_alloc_new V o
theorem KbC.cell {W : World} {b i : Nat} {c : Array Value} {t : TypeId} {v : Value} (h : KbC W b (.cells c t)) (hv : c[i]? = some v) : W.cell? ⟨b, i, none⟩ = some v := by
  unfold World.cell?
  rw [show W.heap[b]? = some (.cells c t) from h]
  exact hv
theorem KbC.frz {W : World} {b i : Nat} {c : Array Value} {t : TypeId} (h : KbC W b (.cells c t)) : W.frozen? ⟨b, i, none⟩ = false := by
  have h : W.heap[b]? = some (.cells c t) := h
  simp [World.frozen?, h]
theorem KbC.set {W : World} {b i : Nat} {c : Array Value} {t : TypeId} (h : KbC W b (.cells c t)) (v : Value) : KbC (W.setCell ⟨b, i, none⟩ v) b (.cells (c.setIfInBounds i v) t) := by
  have h0 : W.heap[b]? = some (.cells c t) := h
  unfold KbC World.setCell
  rw [Array.getElem?_modify, h0]
  simp
theorem KbC.box {W : World} {b : Nat} {c : Cn} (h : KbC W b (cnB c)) : W.cell? ⟨b, 0, none⟩ = some (.int .i64 c.1) ∧ W.cell? ⟨b, 1, none⟩ = some (.int .i64 c.2.1) ∧ W.cell? ⟨b, 2, none⟩ = some (.int .i64 c.2.2) :=
  ⟨h.cell rfl, h.cell rfl, h.cell rfl⟩
theorem KbC.set3 {W : World} {b : Nat} {x y z u v q : Value} {t : TypeId} (h : KbC W b (.cells #[x, y, z] t)) : KbC (((W.setCell ⟨b, 0, none⟩ u).setCell ⟨b, 1, none⟩ v).setCell ⟨b, 2, none⟩ q) b (.cells #[u, v, q] t) := ((h.set u).set v).set q
end Csn
end Go.Proofs.YtbkignlbcneddaaGreatDoor
end

section
/-
  Contract of csn.Check. Condition: at most 1000000000 numbers.
-/
set_option maxRecDepth 100000
set_option maxRecDepth 100000
namespace Go.Proofs.YtbkignlbcneddaaGreatDoor
namespace Csn
open Go.RowKit Go.PlainAid
/-- which replicas have been seen -/
def seenL (l : List Cn) (i : Nat) : List Value := (List.range 8).map fun (k : Nat) => .bool (seenC l i (k : Int))
def seenO (l : List Cn) (i : Nat) : Obj := .cells (seenL l i).toArray 205
theorem seenL_at (l : List Cn) (i k : Nat) (hk : k < 8) : (seenL l i).toArray[k]? = some (.bool (seenC l i (k : Int))) := by
  unfold seenL
  simp [hk]
theorem seenL_get (l : List Cn) (i j : Nat) (h : j < (seenL l i).length) : (seenL l i)[j] = .bool (seenC l i (j : Int)) := by simp [seenL]
theorem seenL_len (l : List Cn) (i : Nat) : (seenL l i).length = 8 := by simp [seenL]
theorem seenL_set (l : List Cn) (i k : Nat) (hi : i < l.length) (hk : k < 8) (e : (cnA l i).2.2 = (k : Int)) : (seenL l i).toArray.setIfInBounds k (.bool true) = (seenL l (i + 1)).toArray := by
  rw [List.setIfInBounds_toArray]
  congr 1
  apply List.ext_getElem
  · rw [List.length_set, seenL_len, seenL_len]
  · intro j h1 h2
    rw [List.getElem_set, seenL_get, seenL_get, seenC_succ hi, e]
    by_cases q : k = j
    · subst q; simp
    · rw [if_neg q]
      have : decide ((k : Int) = (j : Int)) = false := decide_eq_false (by omega)
      rw [this, Bool.or_false]
theorem seenL_zero (l : List Cn) : (seenL l 0).toArray = #[.bool false, .bool false, .bool false, .bool false, .bool false, .bool false, .bool false, .bool false] := by
  unfold seenL seenC
  simp [List.range, List.range.loop]
theorem fst_step {l : List Cn} {i : Nat} (h : ∀ j, j < i → errC l j = 0) (h0 : errC l i = 0) : ∀ j, j < i + 1 → errC l j = 0 := fun j hj => if e : j = i then by rw [e]; exact h0 else h j (by omega)
theorem chk_hit {l : List Cn} {i : Nat} (h : ∀ j, j < i → errC l j = 0) (hi : i < l.length) {x : Int} (e : errC l i = x) (hx : x ≠ 0) : chkC l = x := by
  subst e
  exact fstC_hit h hx hi
set_option maxHeartbeats 8000000 in
theorem check_s (ao : Option Addr) (n cap : Nat) (l : List Cn) (w : World) (h : CnsAt w ao n cap l) :
    Calls Tryz.prog 150 #[.slice ao n cap] w fun e w' => e = .returned (.int .i64 (chkC l)) ∧ Below w.heap.size w w' := by
  obtain ⟨h1, h2, h3, h4, h5⟩ := h
  subst h1
  unfold maxLen at h3
  have H4 := Lib.hid h4; clear h4 h5
  have HK0 := Lib.hid (show KbC (w.alloc (.cells #[.bool false, .bool false, .bool false, .bool false, .bool false, .bool false, .bool false, .bool false] 205)) w.heap.size (seenO l 0) by
    unfold seenO; rw [seenL_zero]; exact kbc_new _ _)
  have HB0 := Lib.hid (box_below w (.cells #[.bool false, .bool false, .bool false, .bool false, .bool false, .bool false, .bool false, .bool false] 205))
  go_enter Tryz.func150, Tryz.ntmps150
  go_wp2_with fail
  go_loopw [8] (fun iv wr => ∃ i : Nat, i ≤ l.length ∧ iv = .int .i64 i ∧ Hid (KbC wr w.heap.size (seenO l i)) ∧ Hid (∀ j, j < i → errC l j = 0) ∧ Hid (Below w.heap.size w wr)) (fun iv _ => l.length - (intOf iv).toNat)
  case atStart => exact ⟨0, Nat.zero_le _, rfl, HK0, Lib.hid (fun j hj => absurd hj (Nat.not_lt_zero _)), HB0⟩
  case round =>
    obtain ⟨i, hi, rfl, HK, HE, HB⟩ := hrel
    by_cases hlt : i < l.length
    · have d1 : (i : Int) < (l.length : Int) := by omega
      obtain ⟨b, off, rfl, hs⟩ := H4.out (by omega)
      have HS := Lib.hid (hs.below HB.out hs.1)
      obtain ⟨c0, c1, c2⟩ := HS.out.2 i hlt
      clear hs
      obtain ⟨⟨t, s, r⟩, hc⟩ : ∃ c, cnA l i = c := ⟨_, rfl⟩
      rw [hc] at c0 c1 c2
      dsimp only at c0 c1 c2
      have HC := Lib.hid hc
      clear hc
      have hv1 := vld_k (t, s, r)
      dsimp only at hv1
      cases hv : vldC (t, s, r)
      · have HF := Lib.hid (chk_hit HE.out hlt (show errC l i = 2 by unfold errC; rw [HC.out, if_pos (fun k => by rw [(vldC_iff _).2 k] at hv; cases hv)]) (by decide))
        have HB2 := Lib.hid (below_allocs [cnB (t, s, r), cnB (t, s, r)] _ _ _ HB.out HB.out.size)
        go_wp2_with fail
        refine (hv1 _ _ hv).mono ?_
        rintro e w' ⟨rfl, rfl⟩
        go_wp2_with fail
        go_ret
        exact ⟨by rw [HF.out]; rfl, HB2.out⟩
      · have hV := (vldC_iff _).1 hv
        have HV := Lib.hid hV
        unfold Vld at hV
        dsimp only at hV
        obtain ⟨v0, v1, v2, v3, v4, v5⟩ := hV
        obtain ⟨k, rfl⟩ : ∃ k : Nat, r = (k : Int) := ⟨r.toNat, by omega⟩
        have hk8 : k < 8 := by omega
        clear v0 v1 v2 v3 v4
        have hX := below_allocs [cnB (t, s, (k : Int)), cnB (t, s, (k : Int))] _ _ _ (Below.refl wr.heap.size wr) (Nat.le_refl _)
        have HX := Lib.hid hX
        have HBX := Lib.hid (KbC.step (kbc_new wr (cnB (t, s, (k : Int)))) (box_below _ (cnB (t, s, (k : Int)))))
        unfold cnB at HX HBX
        dsimp only [List.foldl] at HX HBX
        clear hX
        go_wp2_with fail
        refine (hv1 _ _ hv).mono ?_
        rintro e w' ⟨rfl, rfl⟩
        generalize (wr.alloc (.cells #[.int .i64 t, .int .i64 s, .int .i64 (k : Int)] 23)).alloc (.cells #[.int .i64 t, .int .i64 s, .int .i64 (k : Int)] 23) = W1 at HX HBX ⊢
        have HKX := Lib.hid (HK.out.step HX.out)
        have g0 : W1.cell? ⟨w.heap.size, k, none⟩ = some (.bool (seenC l i (k : Int))) := HKX.out.cell (seenL_at l i k hk8)
        have x2 : W1.cell? ⟨wr.heap.size, 2, none⟩ = some (.int .i64 (k : Int)) := HBX.out.cell rfl
        have HBB := Lib.hid (HB.out.trans (HX.out.mono HB.out.size))
        obtain ⟨sb, hsb⟩ : ∃ q, seenC l i (k : Int) = q := ⟨_, rfl⟩
        rw [hsb] at g0
        have k0 : (0 : Int) ≤ (k : Int) := by omega
        cases sb
        · have HNs := Lib.hid hsb
          clear hsb
          have hfr : W1.frozen? ⟨w.heap.size, k, none⟩ = false := HKX.out.frz
          have HKN := Lib.hid (fun q => show KbC ((W1.drewN q).setCell ⟨w.heap.size, k, none⟩ (.bool true)) w.heap.size (seenO l (i + 1)) by
            have := (show KbC (W1.drewN q) w.heap.size (seenO l i) from HKX.out).set (i := k) (.bool true)
            rw [seenL_set l i k hlt hk8 (by rw [HC.out])] at this
            exact this)
          have HBN := Lib.hid (fun q => (show Below w.heap.size w (W1.drewN q) from HBB.out.trans ⟨rfl, rfl, rfl, Nat.le_refl _, fun _ _ => rfl⟩).setCell (p := ⟨w.heap.size, k, none⟩) (Nat.le_refl _) (.bool true))
          have HBQ := Lib.hid (fun q => show Below w.heap.size w (W1.drewN q) from HBB.out.trans ⟨rfl, rfl, rfl, Nat.le_refl _, fun _ _ => rfl⟩)
          rcases Nat.eq_zero_or_pos i with hi0 | hi0
          · have HN := Lib.hid (fst_step HE.out (show errC l i = 0 by
              unfold errC; rw [HC.out, if_neg (fun q => q HV.out), if_neg (by rw [HNs.out]; exact fun q => by cases q), if_neg (fun q => by omega)]))
            subst hi0
            go_wp2_with fail
            go_quiet (fail)
            go_wp2_with fail
            exact ⟨⟨1, by omega, rfl, Lib.hid (HKN.out _), HN, Lib.hid (HBN.out _)⟩, by simp [intOf]; omega⟩
          · obtain ⟨j, rfl⟩ : ∃ j, i = j + 1 := ⟨i - 1, by omega⟩
            have p2 : W1.cell? ⟨b, off + j * 3 + 2, none⟩ = some (.int .i64 (cnA l j).2.2) := ((HS.out.below HX.out HS.out.1).2 j (by omega)).2.2
            obtain ⟨r', hr'⟩ : ∃ q, (cnA l j).2.2 = q := ⟨_, rfl⟩
            rw [hr'] at p2
            have j0 : (0 : Int) ≤ (j : Int) := by omega
            have j1 : (j : Int) < (l.length : Int) := by omega
            have j2 : (0 : Int) < (j : Int) + 1 := by omega
            by_cases hlr : (k : Int) < r'
            · have d2 : decide ((k : Int) < r') = true := decide_eq_true hlr
              have HF := Lib.hid (chk_hit HE.out hlt (show errC l (j + 1) = 4 by
                unfold errC; rw [HC.out, if_neg (fun q => q HV.out), if_neg (by rw [HNs.out]; exact fun q => by cases q), if_pos ⟨by omega, by rw [Nat.add_sub_cancel, hr']; exact hlr⟩]) (by decide))
              clear hr'
              go_wp2_with fail
              go_quiet (fail)
              go_wp2_with fail
              go_ret
              exact ⟨by rw [HF.out]; rfl, HBQ.out _⟩
            · have d2 : decide ((k : Int) < r') = false := decide_eq_false hlr
              have HN := Lib.hid (fst_step HE.out (show errC l (j + 1) = 0 by
                unfold errC; rw [HC.out, if_neg (fun q => q HV.out), if_neg (by rw [HNs.out]; exact fun q => by cases q), if_neg (fun q => hlr (by have := q.2; rw [Nat.add_sub_cancel, hr'] at this; exact this))]))
              clear hr'
              go_wp2_with fail
              go_quiet (fail)
              go_wp2_with fail
              go_roundw
              case rel => exact ⟨j + 1 + 1, by omega, by go_num, Lib.hid (HKN.out _), HN, Lib.hid (HBN.out _)⟩
              case measure => simp [intOf]; omega
        · have HF := Lib.hid (chk_hit HE.out hlt (show errC l i = 7 by unfold errC; rw [HC.out, if_neg (fun q => q HV.out), if_pos hsb]) (by decide))
          go_wp2_with fail
          go_ret
          exact ⟨by rw [HF.out]; rfl, HBB.out⟩
    · have HF := Lib.hid (show chkC l = 0 from fstC_zero fun j hj => HE.out j (by omega))
      have d1 : ¬ (i : Int) < (l.length : Int) := by omega
      go_wp2_with fail
      go_ret
      exact ⟨by rw [HF.out]; rfl, HB.out⟩
end Csn
end Go.Proofs.YtbkignlbcneddaaGreatDoor
end

section
/-
  DERIVED: THE SHELF's CONTRACTS AT THIS DUMP, IN PLAIN WORDS (tools/lay-plain.mjs out of 'TryzShelfFSrc.lean', which tools/lay-shelf.mjs wrote): THE SAME DECLARATIONS UNDER THE SAME NAMES: 'import', 'namespace', 'open', 'def', 'theorem' AND NOTHING ELSE: no command of the shelf's: FOR A HAND-IN. Each laying: the table of numbers ('.._ren') and one theorem, a field a fact of the dump's own or the kernel's comparison; each contract: ONE APPLICATION.
-/
namespace Go.Proofs
open Go.Shelf
def Tryz.layH8_ren : Go.Shelf.Ren := ⟨fun | 8 => 114 | 6 => 149 | n => n, fun | 22 => 43 | 23 => 23 | 25 => 62 | 4 => 4 | 3 => 3 | 0 => 0 | n => n, fun | n => n⟩
theorem Tryz.layH8 : Go.Proofs.SlLaysH0.n8 Tryz.prog Tryz.layH8_ren := {
  mixed := by kernel_rfl
  f6 := ⟨Tryz.f149.name, by decide, Tryz.func149.trans (congrArg some (by kernel_rfl))⟩
  f8 := ⟨Tryz.f114.name, by decide, Tryz.func114.trans (congrArg some (by kernel_rfl))⟩
  t0 := Tryz.underlying0
  a0 := Tryz.isAgg0
  z0 := Tryz.sizeOf0
  v0 := Tryz.zeroValue0
  t3 := Tryz.underlying3
  a3 := Tryz.isAgg3
  z3 := Tryz.sizeOf3
  v3 := Tryz.zeroValue3
  t4 := Tryz.underlying4
  a4 := Tryz.isAgg4
  z4 := Tryz.sizeOf4
  v4 := Tryz.zeroValue4
  t22 := Tryz.underlying43
  a22 := Tryz.isAgg43
  z22 := Tryz.sizeOf43
  v22 := Tryz.zeroValue43
  t25 := Tryz.underlying62
  a25 := Tryz.isAgg62
  z25 := Tryz.sizeOf62
  v25 := Tryz.zeroValue62 }
end Go.Proofs
end

section
/-
  Contracts of csn.vector, Covers and its closure. Condition: at most 1000000000 numbers.
-/
set_option maxRecDepth 100000
set_option maxRecDepth 100000
namespace Go.Proofs.YtbkignlbcneddaaGreatDoor
namespace Csn
open Go.RowKit Go.PlainAid Go.Shelf
theorem vector_s (ao : Option Addr) (n cap : Nat) (l : List Cn) (w : World) (h : CnsAt w ao n cap l) :
    Calls Tryz.prog 115 #[.slice ao n cap] w fun e w' => ∃ bo m dap, e = .returned (.slice bo m dap) ∧ CnsAt w' bo m dap (vecO l) ∧ Below w.heap.size w w' := by
  have H := Lib.hid h
  have HC := Lib.hid (check_s ao n cap l w h)
  clear h
  obtain ⟨x, hx⟩ : ∃ x, chkC l = x := ⟨_, rfl⟩
  rw [hx] at HC
  by_cases h0 : x = 0
  · have HV := Lib.hid (show vecO l = l from if_pos (by rw [hx]; exact h0))
    subst h0
    clear hx
    go_enter Tryz.func115, Tryz.ntmps115
    go_wp2_with (go_at_call 150; refine HC.out.mono ?_; rintro e w' ⟨rfl, hb⟩)
    go_ret
    exact ⟨ao, n, cap, rfl, by rw [HV.out]; exact H.out.below hb, hb⟩
  · have HV := Lib.hid (show vecO l = [] from if_neg (by rw [hx]; exact h0))
    have d0 : (x != 0) = true := by simpa using h0
    clear hx h0
    go_enter Tryz.func115, Tryz.ntmps115
    go_wp2_with (go_at_call 150; refine HC.out.mono ?_; rintro e w' ⟨rfl, hb⟩)
    go_ret
    exact ⟨none, 0, 0, rfl, by rw [HV.out]; exact cns_nil _, hb⟩
/-! ### Covers -/
def cvP (c e : Cn) : Bool := decide (e.2.2 = c.2.2) && !decide (ltC e c)
def encC (x : Cn) : List Value := [.int .i64 x.1, .int .i64 x.2.1, .int .i64 x.2.2]
theorem get_cn (l : List Cn) (j : Nat) : l[j]! = cnA l j := by
  unfold cnA
  rw [List.getD_eq_getElem?_getD, List.getElem!_eq_getElem?_getD]
  rfl
set_option maxHeartbeats 8000000 in
theorem cov1_s (b : Nat) (c e : Cn) (w : World) (hk : KbC w b (cnB c)) :
    Calls Tryz.prog 116 #[cnV e, .pointer (some ⟨b, 0, none⟩)] w fun x w' => x = .returned (.bool (cvP c e)) ∧ Below w.heap.size w w' := by
  have HCk := Lib.hid (fun (x : Int) W (h : cmpC e c = x) => show Calls Tryz.prog 69 #[.agg #[.int .i64 e.1, .int .i64 e.2.1, .int .i64 e.2.2], .agg #[.int .i64 c.1, .int .i64 c.2.1, .int .i64 c.2.2]] W (fun q w' => q = .returned (.int .i64 x) ∧ Below W.heap.size W w') from h ▸ cmp_s e c W)
  have HT := Lib.hid (cmpC_cases e c)
  obtain ⟨e0, e1, e2⟩ := e
  obtain ⟨c0, c1, c2⟩ := c
  dsimp only at HCk
  show Calls _ _ #[.agg #[.int .i64 e0, .int .i64 e1, .int .i64 e2], .pointer (some ⟨b, 0, none⟩)] w _
  have hne : b ≠ w.heap.size := by have := hk.big; omega
  have hX := kbc_new w (cnB (e0, e1, e2))
  have hY := hk.step (box_below w (cnB (e0, e1, e2)))
  have HB := Lib.hid (box_below w (cnB (e0, e1, e2)))
  obtain ⟨x0, x1, x2⟩ := hX.box
  obtain ⟨y0, y1, y2⟩ := hY.box
  unfold cnB at x0 x1 x2 y0 y1 y2 HB
  dsimp only at x0 x1 x2 y0 y1 y2 HB
  clear hX hY
  obtain ⟨z0, z1, z2⟩ := hk.box
  dsimp only at z0 z1 z2
  by_cases h2 : e2 = c2
  · have HP := Lib.hid (show cvP (c0, c1, c2) (e0, e1, e2) = !decide (ltC (e0, e1, e2) (c0, c1, c2)) by unfold cvP; rw [decide_eq_true h2]; rfl)
    subst h2
    by_cases h0 : e0 = c0
    · subst h0
      by_cases h1 : e1 = c1
      · subst h1
        have HF := Lib.hid (show cvP (e0, e1, e2) (e0, e1, e2) = true by rw [HP.out, decide_eq_false (ltC_irr _)]; rfl)
        rw [HF.out]
        go_enter Tryz.func116, Tryz.ntmps116
        go_wp2_with fail
        go_ret
        exact ⟨rfl, HB.out⟩
      · have b1 : (e1 == c1) = false := by simpa using h1
        have HNE := Lib.hid (show ¬ (e0, e1, e2) = (e0, c1, e2) from fun q => h1 (by simpa using q))
        clear h1
        rcases HT.out with ⟨h, k⟩ | ⟨h, k⟩ | ⟨h, k⟩
        · have HF := Lib.hid (show cvP _ _ = false by rw [HP.out, decide_eq_true h]; rfl)
          rw [HF.out]
          go_enter Tryz.func116, Tryz.ntmps116
          go_wp2_with fail
          refine (HCk.out (-1) _ k).mono ?_
          rintro e w' ⟨rfl, hb⟩
          go_wp2_with fail
          go_ret
          exact ⟨rfl, HB.out.trans (hb.mono HB.out.size)⟩
        · have HF := Lib.hid (show cvP _ _ = true by rw [HP.out, decide_eq_false (ltC_asymm h)]; rfl)
          rw [HF.out]
          go_enter Tryz.func116, Tryz.ntmps116
          go_wp2_with fail
          refine (HCk.out 1 _ k).mono ?_
          rintro e w' ⟨rfl, hb⟩
          go_wp2_with fail
          go_ret
          exact ⟨rfl, HB.out.trans (hb.mono HB.out.size)⟩
        · exact absurd h HNE.out
    · have b0 : (e0 == c0) = false := by simpa using h0
      have HNE := Lib.hid (show ¬ (e0, e1, e2) = (c0, c1, e2) from fun q => h0 (Prod.mk.inj q).1)
      clear h0
      rcases HT.out with ⟨h, k⟩ | ⟨h, k⟩ | ⟨h, k⟩
      · have HF := Lib.hid (show cvP _ _ = false by rw [HP.out, decide_eq_true h]; rfl)
        rw [HF.out]
        go_enter Tryz.func116, Tryz.ntmps116
        go_wp2_with fail
        refine (HCk.out (-1) _ k).mono ?_
        rintro e w' ⟨rfl, hb⟩
        go_wp2_with fail
        go_ret
        exact ⟨rfl, HB.out.trans (hb.mono HB.out.size)⟩
      · have HF := Lib.hid (show cvP _ _ = true by rw [HP.out, decide_eq_false (ltC_asymm h)]; rfl)
        rw [HF.out]
        go_enter Tryz.func116, Tryz.ntmps116
        go_wp2_with fail
        refine (HCk.out 1 _ k).mono ?_
        rintro e w' ⟨rfl, hb⟩
        go_wp2_with fail
        go_ret
        exact ⟨rfl, HB.out.trans (hb.mono HB.out.size)⟩
      · exact absurd h HNE.out
  · have b2 : (e2 == c2) = false := by simpa using h2
    have HF := Lib.hid (show cvP (c0, c1, c2) (e0, e1, e2) = false by unfold cvP; rw [decide_eq_false h2]; rfl)
    clear h2
    go_enter Tryz.func116, Tryz.ntmps116
    go_wp2_with fail
    go_ret
    exact ⟨by rw [HF.out]; rfl, HB.out⟩
end Csn
end Go.Proofs.YtbkignlbcneddaaGreatDoor
end

section
/-
  Contracts of slices.ContainsFunc at numbers, csn.Covers, Within and its closure. Condition: none beyond that a slice fits its capacity.
-/
set_option maxRecDepth 100000
set_option maxRecDepth 100000
namespace Go.Proofs.YtbkignlbcneddaaGreatDoor
namespace Csn
open Go.RowKit Go.PlainAid Go.Shelf
set_option maxHeartbeats 2000000 in
theorem idx_none (ao : Option Addr) (cap : Nat) (fv : Value) (w : World) :
    Calls Tryz.prog 149 #[.slice ao 0 cap, fv] w fun e w' => e = .returned (.int .i64 (-1)) ∧ w = w' := by
  go_enter Tryz.func149, Tryz.ntmps149
  go_wp2
  refine wp_loop_rounds 1 ?_
  rw [rounds_succ]
  go_wp2
  go_ret
  exact ⟨rfl, rfl⟩
theorem has_none (ao : Option Addr) (cap : Nat) (fv : Value) (w : World) :
    Calls Tryz.prog 114 #[.slice ao 0 cap, fv] w fun e w' => e = .returned (.bool false) ∧ w = w' := by
  go_enter Tryz.func114, Tryz.ntmps114
  go_wp2_with fail
  refine (idx_none _ _ _ _).mono ?_
  rintro e w' ⟨rfl, rfl⟩
  go_wp2
  go_ret
  exact ⟨rfl, rfl⟩
theorem has_s (ao : Option Addr) (n cap : Nat) (l : List Cn) (p : Cn → Bool) (g : Nat) (lb : Array Value) (w : World) (h : CnsAt w ao n cap l)
    (eg : ∀ args w, (callFunc g args).run Tryz.prog w = .ok (.enter g args) w) (hp : PredBelow Tryz.prog g lb (fun x => .agg (encC x).toArray) p w) :
    Calls Tryz.prog 114 #[.slice ao n cap, .func (.func g) #[] lb] w fun e w' => e = .returned (.bool (l.any p)) ∧ Below w.heap.size w w' := by
  obtain ⟨h1, h2, h3, h4, h5⟩ := h
  subst h1
  unfold maxLen at h3
  by_cases h0 : 0 < l.length
  · obtain ⟨b, off, rfl, hb, hs⟩ := h4 h0
    have := AnyQ.slices_ContainsFunc Tryz.layH8 3 Tryz.isAgg23 Tryz.sizeOf23 encC (fun _ => rfl) p g lb eg b off l.length cap l w hp (Nat.le_refl _) (by omega) hb (fun j hj i v hi => by
      have hk := hs j hj
      rw [get_cn] at hi
      match i, hi with
      | 0, hi => simp [encC] at hi; rw [← hi]; exact hk.1
      | 1, hi => simp [encC] at hi; rw [← hi]; exact hk.2.1
      | 2, hi => simp [encC] at hi; rw [← hi]; exact hk.2.2
      | i + 3, hi => simp [encC] at hi)
    rw [List.take_length] at this
    exact this
  · have e0 : l = [] := List.length_eq_zero_iff.1 (by omega)
    subst e0
    exact (has_none ao cap _ w).mono fun e w' h => ⟨h.1, by rw [← h.2]; exact Below.refl _ _⟩
theorem cov1_pred (b : Nat) (c : Cn) (w : World) (hk : KbC w b (cnB c)) : PredBelow Tryz.prog 116 #[.pointer (some ⟨b, 0, none⟩)] (fun x => .agg (encC x).toArray) (cvP c) w := fun W x hb =>
  (cov1_s b c x W (hk.step hb)).mono fun e w' h => ⟨h.1, hb.trans (h.2.mono hb.size)⟩
theorem cov1_enter : ∀ args w, (callFunc 116 args).run Tryz.prog w = .ok (.enter 116 args) w := enters_of Tryz.func116 (by kernel_rfl) rfl
set_option maxHeartbeats 4000000 in
theorem covers_s (ao : Option Addr) (n cap : Nat) (l : List Cn) (c : Cn) (w : World) (h : CnsAt w ao n cap l) :
    Calls Tryz.prog 71 #[.slice ao n cap, cnV c] w fun e w' => e = .returned (.bool (covC l c)) ∧ Below w.heap.size w w' := by
  have H := Lib.hid h
  clear h
  have HCv := Lib.hid (show covC l c = (decide (Vld c) && (vecO l).any (cvP c)) from rfl)
  have HBx := Lib.hid (KbC.step (kbc_new w (cnB c)) (box_below (w.alloc (cnB c)) (cnB c)))
  have HB := Lib.hid (below_allocs [cnB c, cnB c] _ _ _ (Below.refl w.heap.size w) (Nat.le_refl _))
  have HPr := Lib.hid (fun V (hb : KbC V w.heap.size (cnB c)) => cov1_pred w.heap.size c V hb)
  obtain ⟨t, s, r⟩ := c
  show Calls _ _ #[.slice ao n cap, .agg #[.int .i64 t, .int .i64 s, .int .i64 r]] w _
  have hv1 := vld_k (t, s, r)
  dsimp only at hv1
  unfold cnB at HB
  dsimp only [List.foldl] at HB
  cases hv : vldC (t, s, r)
  · have HF := Lib.hid (show covC l (t, s, r) = false by rw [HCv.out, show decide (Vld (t, s, r)) = false from hv]; rfl)
    go_enter Tryz.func71, Tryz.ntmps71
    go_wp2_with fail
    refine (hv1 _ _ hv).mono ?_
    rintro e w' ⟨rfl, rfl⟩
    go_wp2_with fail
    go_ret
    exact ⟨by rw [HF.out]; rfl, HB.out⟩
  · have HF := Lib.hid (show covC l (t, s, r) = (vecO l).any (cvP (t, s, r)) by rw [HCv.out, show decide (Vld (t, s, r)) = true from hv]; rfl)
    go_enter Tryz.func71, Tryz.ntmps71
    go_wp2_with fail
    refine (hv1 _ _ hv).mono ?_
    rintro e w' ⟨rfl, rfl⟩
    go_wp2_with fail
    refine (vector_s ao n cap l _ (H.out.below HB.out)).mono ?_
    rintro e w1 ⟨bo, m, dap, rfl, hvo, hb⟩
    have HW := Lib.hid (HB.out.trans (hb.mono HB.out.size))
    have HK := Lib.hid (HBx.out.step hb)
    have HVo := Lib.hid hvo
    have HCl := Lib.hid (has_s bo m dap (vecO l) (cvP (t, s, r)) 116 #[.pointer (some ⟨w.heap.size, 0, none⟩)] w1 hvo cov1_enter (HPr.out _ HK.out))
    clear hvo hb
    go_wp2_with fail
    refine HCl.out.mono ?_
    rintro e w2 ⟨rfl, hb⟩
    go_wp2_with fail
    go_ret
    exact ⟨by rw [HF.out]; rfl, HW.out.trans (hb.mono HW.out.size)⟩
/-! ### Within -/
end Csn
end Go.Proofs.YtbkignlbcneddaaGreatDoor
end
