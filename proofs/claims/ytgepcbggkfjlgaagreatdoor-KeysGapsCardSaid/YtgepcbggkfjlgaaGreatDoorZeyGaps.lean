/-
  Proved: identitylaw24.KeysGaps returns true for all arguments (the tied card). No condition beyond the row's own.
-/
import Derived.Deep.RegionHeld3
import Derived.BigQuiet
import Derived.Test.YtgepcbggkfjlgaaGreatDoorM16

section
/-
  Proved: identitylaw24.KeysGaps returns true for all arguments (the tied card). No condition beyond the row's own.
-/
set_option linter.unusedVariables false
set_option linter.unusedSimpArgs false
set_option linter.unnecessarySimpa false
namespace Go.Proofs.YtgepcbggkfjlgaaGreatDoor
open Go.ChangeShapes Go.WideShapes Go.ChangeAt Go.RowKit Go.PlainAid
open Go.ChangeMaps (open_string shut_string)

structure GpI (w : World) (l : Option Addr) (lc : Nat) (ll : List Ky) (go : Option Addr) (gc : Nat) (ho : Option Addr) (hc : Nat) (a b : Int) (G : List Wn) (V : World) : Prop where
  low : Below w.heap.size w V
  k : KsAt V l ll.length lc ll
  g : WinsAt V go G.length gc G
  h : WinsAt V ho G.length hc G
  u : KbC V w.heap.size (wB a b)
theorem GpI.step {w V X : World} {l go ho : Option Addr} {lc gc hc : Nat} {ll : List Ky} {a b : Int} {G : List Wn} (h : GpI w l lc ll go gc ho hc a b G V) (hb : Below V.heap.size V X) : GpI w l lc ll go gc ho hc a b G X :=
  ⟨h.low.trans (hb.mono h.low.size), h.k.below hb, h.g.below hb, h.h.below hb, h.u.step hb⟩
theorem drewN_below (V : World) (q : Nat) : Below V.heap.size V (V.drewN q) := ⟨rfl, rfl, rfl, Nat.le_refl _, fun _ _ => rfl⟩
theorem cv_snoc (l : List Wn) (x y t : Int) : cvB (l ++ [(x, y)]) t = (cvB l t || inW x y t) := by unfold cvB; rw [List.any_append]; simp
theorem wn_get {G : List Wn} {k : Nat} (h : k < G.length) : wnAt G k = G[k] := by unfold wnAt; rw [List.getD_eq_getElem?_getD, List.getElem?_eq_getElem h]; rfl
theorem norm_at {G : List Wn} (h : Norm G) {k : Nat} (hk : k < G.length) {x y : Int} (e : wnAt G k = (x, y)) : x < y := by
  have := h.1 _ (List.getElem_mem hk)
  rw [← wn_get hk, e] at this; exact this
theorem norm_next {G : List Wn} (h : Norm G) {j : Nat} (hk : j + 1 < G.length) {x y x0 y0 : Int} (e : wnAt G (j + 1) = (x, y)) (e0 : wnAt G j = (x0, y0)) : y0 < x := by
  have := List.pairwise_iff_getElem.1 h.2 j (j + 1) (by omega) hk (by omega)
  rw [← wn_get hk, ← wn_get (show j < G.length by omega), e, e0] at this; exact this
theorem in_p (p : Wn) (t : Int) (r : Bool) (w : World) (h : inW p.1 p.2 t = r) :
    Calls Tryz.prog 18 #[.agg #[.int .i64 p.1, .int .i64 p.2], .int .i64 t] w fun e w' => e = .returned (.bool r) ∧ Below w.heap.size w w' := in_q p.1 p.2 t r w h
set_option maxRecDepth 100000 in
set_option maxHeartbeats 16000000 in
theorem kgaps_s (l : Option Addr) (ln lc : Nat) (ll : List Ky) (u : Wn) (tt : Int) (w : World) (hl : KsAt w l ln lc ll) (il : ∀ g ∈ ll, InK g) (htt : (Lit.int .i64 tt).wf = true) (ho : WK w) :
    Calls Tryz.prog 9 #[.slice l ln lc, .agg #[.int .i64 u.1, .int .i64 u.2], .int .i64 tt] w fun e w' => e = .returned (.bool true) ∧ Below w.heap.size w w' := by
  have HO := Lib.hid ho
  have HK := Lib.hid hl
  have HB := Lib.hid (Below.refl w.heap.size w)
  have hlc := hl.2.1
  have hlm := hl.2.2.1
  unfold maxLen at hlm
  have HLn := Lib.hid hl.1
  clear ho
  have hLn := hl.1
  subst hLn
  obtain ⟨a, b⟩ := u
  dsimp only
  have HU := Lib.hid (kbc_new w (wB a b))
  have HB := Lib.hid (box_below w (wB a b))
  have HK := Lib.hid (HK.out.below (box_below w (wB a b)))
  dsimp only [wB] at HU HB HK
  cases hg : greatB ll 20
  · have HG := Lib.hid hg
    have hn : ll.length ≤ 1000 := by have h5 := (great_no hg).1; omega
    obtain ⟨G, hG⟩ : ∃ G, gpsK ll (a, b) = G := ⟨_, rfl⟩
    have HGp := Lib.hid hG
    have HNo := Lib.hid (show Norm G by rw [← hG]; exact gps_norm ll (a, b))
    have HCv := Lib.hid (show ∀ t, 0 ≤ t → t < 1099511627776 → inW a b t = true → cvB G t = !cvB (ll.map sgW) t from fun t h0 h1 h2 => by rw [← hG]; exact gps_cov ll (a, b) h0 h1 h2)
    have HKd := Lib.hid (HK.out.below (Below.refl (w.alloc (wB a b)).heap.size (w.alloc (wB a b))).drew)
    have HBd := Lib.hid (HB.out.trans ((Below.refl (w.alloc (wB a b)).heap.size (w.alloc (wB a b))).drew.mono HB.out.size))
    have HUd := Lib.hid (KbC.step HU.out (Below.refl (w.alloc (wB a b)).heap.size (w.alloc (wB a b))).drew)
    dsimp only [wB] at HKd HBd HUd
    have HSt : Hid (∀ V, KbC V w.heap.size (.cells #[.int .i64 a, .int .i64 b] 29) → V.cell? ⟨w.heap.size, 0, none⟩ = some (.int .i64 a) ∧ V.cell? ⟨w.heap.size, 1, none⟩ = some (.int .i64 b)) := Lib.hid fun V h => ⟨h.cell rfl, h.cell rfl⟩
    have S0 := HSt.out _ HUd.out
    clear hg hl hG
    go_enter Tryz.func9, Tryz.ntmps9
    go_wp2_with fail
    refine (great_k l ll.length lc ll 20 false _ HK.out HG.out).mono ?_
    rintro e w' ⟨rfl, rfl⟩
    go_wp2_with fail
    refine wp_region_held_drew (S := fun V => V.cell? ⟨w.heap.size, 0, none⟩ = some (.int .i64 a) ∧ V.cell? ⟨w.heap.size, 1, none⟩ = some (.int .i64 b)) (by kernel_rfl) (S0) (fun hS => ?_)
    refine wpAnyH_take (i := 0) (oi := { dst := some 17, op := _, type := _, pos := _, after := _, guard := _ }) (v := ?_) rfl (by kernel_rfl) (by kernel_rfl) (by kernel_rfl) (fun _ _ _ h => h) (Or.inl ⟨by rfl, ?_⟩) (by assumption) ?_
    rotate_left
    · intro w hSw
      try dsimp only at hSw
      go_simp
      try with_reducible rfl
    try simp only [Act.put, List.setIfInBounds_toArray, List.set_cons_zero, List.set_cons_succ]
    refine wpAnyH_take (i := 1) (oi := { dst := some 18, op := _, type := _, pos := _, after := _, guard := _ }) (v := ?_) rfl (by kernel_rfl) (by kernel_rfl) (by kernel_rfl) (fun _ _ _ h => h) (Or.inl ⟨by rfl, ?_⟩) (by assumption) ?_
    rotate_left
    · intro w hSw
      try dsimp only at hSw
      go_simp
      try with_reducible rfl
    try simp only [Act.put, List.setIfInBounds_toArray, List.set_cons_zero, List.set_cons_succ]
    refine wpAnyH_take (i := 3) (oi := { dst := some 20, op := _, type := _, pos := _, after := _, guard := _ }) (v := ?_) rfl (by kernel_rfl) (by kernel_rfl) (by kernel_rfl) (fun _ _ _ h => h) (Or.inl ⟨by rfl, ?_⟩) (by assumption) ?_
    rotate_left
    · intro w hSw
      try dsimp only at hSw
      go_simp
      try with_reducible rfl
    try simp only [Act.put, List.setIfInBounds_toArray, List.set_cons_zero, List.set_cons_succ]
    refine wpAnyH_take (i := 4) (oi := { dst := some 21, op := _, type := _, pos := _, after := _, guard := _ }) (v := ?_) rfl (by kernel_rfl) (by kernel_rfl) (by kernel_rfl) (fun _ _ _ h => h) (Or.inl ⟨by rfl, ?_⟩) (by assumption) ?_
    rotate_left
    · intro w hSw
      try dsimp only at hSw
      go_simp
      try with_reducible rfl
    try simp only [Act.put, List.setIfInBounds_toArray, List.set_cons_zero, List.set_cons_succ]
    refine wpAnyH_ready (rs := [2]) (by kernel_rfl) (by simp) ?_
    refine AllReadyH.cons rfl (fun K hK => ?_) AllReadyH.nil
    go_simp
    refine (gaps_k l ll.length lc ll a b G _ HKd.out hn HGp.out).mono ?_
    rintro e v1 ⟨go, gc, rfl, hgg, hb⟩
    have HKd := Lib.hid (HKd.out.below hb)
    have HBd := Lib.hid (HBd.out.trans (hb.mono HBd.out.size))
    have HUd := Lib.hid (HUd.out.step hb)
    have HGa := Lib.hid hgg
    clear hb hgg
    go_wp2_with fail
    refine hK.out _ _ ?_ (fun hHeld => ?_)
    · exact HSt.out _ HUd.out
    clear hK K
    try simp only [Act.put, List.setIfInBounds_toArray, List.set_cons_zero, List.set_cons_succ]
    refine wpAnyH_ready (rs := [5]) (by kernel_rfl) (by simp) ?_
    refine AllReadyH.cons rfl (fun K hK => ?_) AllReadyH.nil
    go_simp
    refine (rgaps_k l ll.length lc ll a b G _ HKd.out hn HGp.out).mono ?_
    rintro e v2 ⟨ho, hc, rfl, hgg, hb⟩
    have HKd := Lib.hid (HKd.out.below hb)
    have HBd := Lib.hid (HBd.out.trans (hb.mono HBd.out.size))
    have HUd := Lib.hid (HUd.out.step hb)
    have HGa := Lib.hid (HGa.out.below hb)
    have HHa := Lib.hid hgg
    clear hb hgg
    go_wp2_with fail
    refine hK.out _ _ ?_ (fun hHeld => ?_)
    · exact HSt.out _ HUd.out
    clear hK K
    try simp only [Act.put, List.setIfInBounds_toArray, List.set_cons_zero, List.set_cons_succ]
    refine wpAnyH_take (i := 6) (oi := { dst := some 7, op := _, type := _, pos := _, after := _, guard := _ }) (v := ?_) rfl (by kernel_rfl) (by kernel_rfl) (by kernel_rfl) (fun _ _ _ h => h) (Or.inl ⟨by rfl, ?_⟩) (by assumption) ?_
    rotate_left
    · intro w hSw
      try dsimp only at hSw
      go_simp
      try with_reducible rfl
    try simp only [Act.put, List.setIfInBounds_toArray, List.set_cons_zero, List.set_cons_succ]
    refine wpAnyH_take (i := 7) (oi := { dst := some 8, op := _, type := _, pos := _, after := _, guard := _ }) (v := ?_) rfl (by kernel_rfl) (by kernel_rfl) (by kernel_rfl) (fun _ _ _ h => h) (Or.inl ⟨by rfl, ?_⟩) (by assumption) ?_
    rotate_left
    · intro w hSw
      try dsimp only at hSw
      go_simp
      try with_reducible rfl
    try simp only [Act.put, List.setIfInBounds_toArray, List.set_cons_zero, List.set_cons_succ]
    refine wpAnyH_done (by kernel_rfl) ?_ _
    have HI := Lib.hid (show GpI w l lc ll go gc ho hc a b G v2 from ⟨HBd.out, HKd.out, HGa.out, HHa.out, HUd.out⟩)
    have g1 := HGa.out.2.1
    have g2 := HGa.out.2.2.1
    have g3 := HHa.out.2.1
    have g4 := HHa.out.2.2.1
    unfold maxLen at g2 g4
    have e1 := bne_i (G.length : Int)
    clear HBd HKd HGa HHa HUd HU HB HK S0 HSt
    go_wp2_with fail
    refine (live_s _ (HO.out.below HI.out.low)).mono ?_
    rintro e v3 ⟨rfl, hb⟩
    have HI := Lib.hid (HI.out.step hb)
    clear hb e1
    go_wp2_with fail
    go_loopw [34] (fun iv wr => ∃ k : Nat, k ≤ G.length ∧ iv = .int .i64 k ∧ Hid (GpI w l lc ll go gc ho hc a b G wr)) (fun iv _ => G.length - (intOf iv).toNat)
    case atStart => exact ⟨0, Nat.zero_le _, rfl, HI⟩
    case round =>
      clear HI
      obtain ⟨k, hk, rfl, HI⟩ := hrel
      by_cases hlt : k < G.length
      · obtain ⟨gb, gf, rfl, hig⟩ := HI.out.g.2.2.2 (by omega)
        obtain ⟨hb', hf, rfl, hih⟩ := HI.out.h.2.2.2 (by omega)
        obtain ⟨c0, c1⟩ := hig.2 k hlt
        obtain ⟨d0, d1⟩ := hih.2 k hlt
        obtain ⟨⟨x, y⟩, hxy⟩ : ∃ p, wnAt G k = p := ⟨_, rfl⟩
        rw [hxy] at c0 c1 d0 d1
        dsimp only at c0 c1 d0 d1
        have hlt2 := norm_at HNo.out hlt hxy
        have n1 : decide (y ≤ x) = false := decide_eq_false (by omega)
        have HI9 : Hid (∀ q, GpI w l lc ll (some ⟨gb, gf, none⟩) gc (some ⟨hb', hf, none⟩) hc a b G (wr.drewN q)) := Lib.hid fun q => HI.out.step (drewN_below wr q)
        have i1 : (k : Int) < (G.length : Int) := by omega
        rcases Nat.eq_zero_or_pos k with h0 | h0
        · subst h0
          rw [Nat.zero_mul, Nat.add_zero] at c0 c1 d0 d1
          clear hig hih hxy hlt2
          go_wp2_with fail
          go_quiet (fail)
          go_wp2_with fail
          go_roundw
          case rel => exact ⟨0 + 1, by omega, by go_num, Lib.hid (HI9.out _)⟩
          case measure => simp [intOf]; omega
        · obtain ⟨j, rfl⟩ : ∃ j, k = j + 1 := ⟨k - 1, by omega⟩
          obtain ⟨p0, p1⟩ := hig.2 j (by omega)
          obtain ⟨⟨x0, y0⟩, hxy0⟩ : ∃ p, wnAt G j = p := ⟨_, rfl⟩
          rw [hxy0] at p0 p1
          dsimp only at p0 p1
          have hnx := norm_next HNo.out hlt hxy hxy0
          have n2 : decide (x ≤ y0) = false := decide_eq_false (by omega)
          have n3 : decide ((0 : Int) < ((j + 1 : Nat) : Int)) = true := decide_eq_true (by omega)
          have n4 : decide ((0 : Int) < (j : Int) + 1) = true := decide_eq_true (by omega)
          have w1 : IntKind.i64.wrap (((j + 1 : Nat) : Int) - 1) = (j : Int) := by rw [IntWalk.i64_in _ (by omega)]; omega
          have w2 : IntKind.i64.wrap ((j : Int) + 1 - 1) = (j : Int) := by rw [IntWalk.i64_in _ (by omega)]; omega
          have w3 : IntKind.i64.wrap (j : Int) = (j : Int) := IntWalk.i64_in _ (by omega)
          have i2 : (j : Int) < (G.length : Int) := by omega
          have i3 : (j : Int) + 1 < (G.length : Int) := by omega
          have i4 : j < G.length := by omega
          have i5 : (0 : Int) ≤ (j : Int) + 1 := by omega
          clear hig hih hxy hxy0 hlt2 hnx
          go_wp2_with fail
          go_quiet (fail)
          go_wp2_with fail
          go_roundw
          case rel => exact ⟨j + 1 + 1, by omega, by go_num, Lib.hid (HI9.out _)⟩
          case measure => simp [intOf]; omega
      · obtain rfl : k = G.length := by omega
        have q0 := HI.out.u.cell (i := 0) (v := .int .i64 a) rfl
        have q1 := HI.out.u.cell (i := 1) (v := .int .i64 b) rfl
        by_cases t1 : tt < 0
        · clear q0 q1
          go_wp2_with fail
          go_ret
          exact ⟨rfl, HI.out.low⟩
        · have t1' : decide (tt < 0) = false := decide_eq_false t1
          by_cases t2 : 1099511627776 ≤ tt
          · have t2' : decide (1099511627776 ≤ tt) = true := decide_eq_true t2
            clear q0 q1
            go_wp2_with fail
            go_ret
            exact ⟨rfl, HI.out.low⟩
          · have t2' : decide (1099511627776 ≤ tt) = false := decide_eq_false t2
            cases hin : inW a b tt
            · have HIn := Lib.hid hin
              clear hin
              go_wp2_with fail
              refine (in_q a b tt false _ HIn.out).mono ?_
              rintro e v4 ⟨rfl, hb⟩
              have HI := Lib.hid (HI.out.step hb)
              clear hb q0 q1
              go_wp2_with fail
              go_ret
              exact ⟨rfl, HI.out.low⟩
            · have HIn := Lib.hid hin
              have HFin := Lib.hid (HCv.out tt (by omega) (by omega) hin)
              clear hin
              go_wp2_with fail
              refine (in_q a b tt true _ HIn.out).mono ?_
              rintro e v4 ⟨rfl, hb⟩
              have HI := Lib.hid (HI.out.step hb)
              clear hb q0 q1
              go_wp2_with fail
              go_loopw [10, 92] (fun gv iv wr => ∃ (k : Nat) (r : Bool), k ≤ G.length ∧ iv = .int .i64 k ∧ gv = .bool r ∧ Hid (cvB (G.take k) tt = r) ∧ Hid (GpI w l lc ll go gc ho hc a b G wr)) (fun _ iv _ => G.length - (intOf iv).toNat)
              case atStart => exact ⟨0, false, Nat.zero_le _, rfl, rfl, Lib.hid rfl, HI⟩
              case round =>
                clear HI
                obtain ⟨k, r, hk, rfl, rfl, HR, HI⟩ := hrel
                by_cases hlt : k < G.length
                · obtain ⟨gb, gf, rfl, hig⟩ := HI.out.g.2.2.2 (by omega)
                  obtain ⟨c0, c1⟩ := hig.2 k hlt
                  obtain ⟨⟨x, y⟩, hxy⟩ : ∃ p, wnAt G k = p := ⟨_, rfl⟩
                  rw [hxy] at c0 c1
                  dsimp only at c0 c1
                  have i1 : (k : Int) < (G.length : Int) := by omega
                  have htk := take_wn G k hlt
                  rw [hxy] at htk
                  have HC := Lib.hid (show cvB (G.take (k + 1)) tt = (r || inW x y tt) by rw [htk, cv_snoc, HR.out])
                  clear hig hxy htk
                  cases r
                  · obtain ⟨q, hq⟩ : ∃ q, inW x y tt = q := ⟨_, rfl⟩
                    have HQ := Lib.hid hq
                    clear hq
                    go_wp2_with fail
                    refine (in_q x y tt q _ HQ.out).mono ?_
                    rintro e v5 ⟨rfl, hb⟩
                    have HI := Lib.hid (HI.out.step hb)
                    clear hb c0 c1
                    go_wp2_with fail
                    go_roundw
                    case rel => exact ⟨k + 1, q, by omega, by go_num, rfl, Lib.hid (by rw [HC.out, HQ.out]; rfl), HI⟩
                    case measure => simp [intOf]; omega
                  · clear c0 c1
                    go_wp2_with fail
                    go_roundw
                    case rel => exact ⟨k + 1, true, by omega, by go_num, rfl, Lib.hid (by rw [HC.out]; rfl), HI⟩
                    case measure => simp [intOf]; omega
                · obtain rfl : k = G.length := by omega
                  have HR := Lib.hid (show cvB G tt = r by have := HR.out; rwa [List.take_length] at this)
                  go_wp2_with fail
                  go_loopw [11, 107] (fun sv iv wr => ∃ (k : Nat) (s : Bool), k ≤ ll.length ∧ iv = .int .i64 k ∧ sv = .bool s ∧ Hid (cvB ((ll.take k).map sgW) tt = s) ∧ Hid (GpI w l lc ll go gc ho hc a b G wr)) (fun _ iv _ => ll.length - (intOf iv).toNat)
                  case atStart => exact ⟨0, false, Nat.zero_le _, rfl, rfl, Lib.hid rfl, HI⟩
                  case round =>
                    clear HI
                    obtain ⟨k, s, hk, rfl, rfl, HS, HI⟩ := hrel
                    by_cases hlt : k < ll.length
                    · obtain ⟨lb, lo, rfl, hil⟩ := HI.out.k.2.2.2.1 (by omega)
                      obtain ⟨x, hx⟩ : ∃ x, kA ll k = x := ⟨_, rfl⟩
                      have hat := hil.at_ hlt
                      rw [hx] at hat
                      obtain ⟨-, -, c2, c3, -, -⟩ := hat
                      have i1 : (k : Int) < (ll.length : Int) := by omega
                      have htk : (ll.take (k + 1)).map sgW = (ll.take k).map sgW ++ [(x.sf, x.su)] := by rw [take_k ll k hlt, List.map_append, hx]; rfl
                      have HC := Lib.hid (show cvB ((ll.take (k + 1)).map sgW) tt = (s || inW x.sf x.su tt) by rw [htk, cv_snoc, HS.out])
                      clear hil hx htk
                      cases s
                      · obtain ⟨q, hq⟩ : ∃ q, inW x.sf x.su tt = q := ⟨_, rfl⟩
                        have HQ := Lib.hid hq
                        clear hq
                        go_wp2_with fail
                        refine (in_q x.sf x.su tt q _ HQ.out).mono ?_
                        rintro e v5 ⟨rfl, hb⟩
                        have HI := Lib.hid (HI.out.step hb)
                        clear hb c2 c3
                        go_wp2_with fail
                        go_roundw
                        case rel => exact ⟨k + 1, q, by omega, by go_num, rfl, Lib.hid (by rw [HC.out, HQ.out]; rfl), HI⟩
                        case measure => simp [intOf]; omega
                      · clear c2 c3
                        go_wp2_with fail
                        go_roundw
                        case rel => exact ⟨k + 1, true, by omega, by go_num, rfl, Lib.hid (by rw [HC.out]; rfl), HI⟩
                        case measure => simp [intOf]; omega
                    · obtain rfl : k = ll.length := by omega
                      have hs : cvB (ll.map sgW) tt = s := by have := HS.out; rwa [List.take_length] at this
                      have hrs : r = !s := by rw [← HR.out, ← hs]; exact HFin.out
                      subst hrs
                      clear hs
                      cases s <;> (go_wp2_with fail; go_ret; exact ⟨rfl, HI.out.low⟩)
  · have HG := Lib.hid hg
    clear hg hl
    go_enter Tryz.func9, Tryz.ntmps9
    go_wp2_with fail
    refine (great_k l ll.length lc ll 20 true _ HK.out HG.out).mono ?_
    rintro e w' ⟨rfl, rfl⟩
    go_wp2_with fail
    refine (live_s _ (HO.out.below HB.out)).mono ?_
    rintro e v3 ⟨rfl, hb⟩
    have HB := Lib.hid (HB.out.trans (hb.mono HB.out.size))
    clear hb
    go_wp2_with fail
    go_ret
    exact ⟨rfl, HB.out⟩

theorem kgaps_types : ∀ t ∈ [22, 29, 3], Tryz.prog.readableRec t = true ∧ t < Tryz.prog.types.size := by
  have h : ([22, 29, 3].all fun t => Tryz.prog.readableRec t && decide (t < Tryz.prog.types.size)) = true := by kernel_rfl
  intro t ht
  have := List.all_eq_true.1 h t ht
  simpa using this

set_option maxRecDepth 100000 in
theorem kgaps_contract (H : Type) (enc : TypeId × Value → H) (W : World) (base : Nat) (args : Array Value) (ds gs : List (DataW H)) (before : List MemPlace)
    (hval : ∀ (j : Nat) t v, Tryz.f9.params[j]? = some t → args[j]? = some v → Value.okWide Tryz.prog W .any base t v)
    (hW : DataW.Whole enc Tryz.prog Tryz.f9.params.toList Rows.keysGapsSpec.vars false W args.toList ds gs before) (hL : laidMetH Tryz.prog Rows.keysGapsRow.laid W) (hsh : W.ShapedOpen Tryz.prog) :
    Calls Tryz.prog 9 args W fun e W' => ∃ v, e = .returned v ∧ Rows.keysGapsSpec.post enc Tryz.prog Tryz.f9 false true false false W args v W' := by
  have hW' := hW
  obtain ⟨p, q, hA0, hV, rfl, hfz, hnd⟩ := hW
  have hA : DataW.TrodAll enc Tryz.prog W 0 (fun _ => true) true Tryz.f9.params.toList args.toList ds p := hA0
  obtain ⟨rfl, rfl⟩ := trodVars_none hV
  simp only [List.append_nil] at hW'
  have hlt : ∀ x ∈ p, x.block < W.heap.size := fun x hx => by simpa using hW'.lt x hx
  have fin : ∀ W', Below W.heap.size W W' → DataW.TrodAll enc Tryz.prog W' 0 (fun b => decide (b < W.heap.size)) true [22, 29, 3] args.toList ds p := fun W' hb => by
    rw [Tryz.params9] at hA
    exact trodAll_below hb _ _ _ _ kgaps_types hA hlt
  clear hA0
  rw [Tryz.params9] at hA hval
  obtain ⟨v0, vs0, d0, ds0, p0, q0, hargs, rfl, hp0, h0, r0⟩ := trodAll_cons hA
  obtain ⟨v1, vs1, d1, ds1, p1, q1, rfl, rfl, hp1, h1, r1⟩ := trodAll_cons r0
  obtain ⟨v2, vs2, d2, ds2, p2, q2, rfl, rfl, hp2, h2, r2⟩ := trodAll_cons r1
  obtain ⟨rfl, rfl, rfl⟩ := trodAll_nil r2
  obtain rfl : args = #[v0, v1, v2] := by cases args; simp_all
  obtain ⟨l, ln, lc, ll, rfl, hs0, hi0⟩ := open_ks (hval 0 22 v0 rfl rfl) h0
  obtain ⟨u, rfl⟩ := open_win (hval 1 29 v1 rfl rfl) h1
  obtain ⟨tt, rfl, rfl, rfl, hs2⟩ := open_int Tryz.underlying3 (hval 2 3 v2 rfl rfl) h2
  refine (kgaps_s l ln lc ll u tt W hs0 hi0 hs2 (wk_of hL hsh)).mono fun e W' ⟨he, hb⟩ => ?_
  subst he
  exact ⟨_, rfl, _, _, _, [], p, [], hW', trodAll_mk1 (shut_bool Tryz.underlying4 _), fin W' hb, rfl, hb.frame _, fun h => by cases h⟩

set_option maxRecDepth 100000 in
theorem kgaps_lifted (os : Os) (started : os.Started) (H : Type) (enc : TypeId × Value → H) (F : Stop.Interp) :
    ReturnsInHanded {} Tryz.checked os 9 .any ((OpenSpec.ofChange Rows.keysGapsSpec).preRow enc Tryz.prog Tryz.f9 Rows.keysGapsRow.domain false Rows.keysGapsRow.laid) (((OpenSpec.ofChange Rows.keysGapsSpec).at F).post enc Tryz.prog Tryz.f9 false true false false) := by
  refine returnsInHanded_of_row (C := Tryz.checked) (s := OpenSpec.ofChange Rows.keysGapsSpec) own started (by kernel_rfl) Tryz.func9
    (witness_row (enc := enc) (C := Tryz.checked) false (World.laidAll Tryz.prog os Rows.keysGapsRow.laid) #[.slice none 0 0, .agg #[.int .i64 0, .int .i64 0], .int .i64 0] (World.laidAll_os _ _ _)
      (World.shaped_of_ZipB (by kernel_rfl) (by kernel_rfl)) (by kernel_rfl)
      (OpenSpec.preRow_of_cond 8 (x := ([.nil, .agg [.lit (.int .i64 0), .lit (.int .i64 0)], .lit (.int .i64 0)], [], [])) (by kernel_rfl) (by kernel_rfl) (fun k hk => by cases hk) (by kernel_rfl)
        (by rw [MakeChecks.laidMetH_plain _ _ _ (by kernel_rfl)]; exact laidMet_laidAll _ (by kernel_rfl) (by kernel_rfl)))) ?_
  intro W base args ds gs before hval hW _ _ _ hL hsh _
  exact kgaps_contract H enc W base args ds gs before hval hW hL hsh

set_option maxRecDepth 100000 in
theorem kgaps_said : Rows.KeysGapsSaid :=
  OpenClaim.holds_of_cond 9 Tryz.f9 rfl rfl rfl rfl rfl rfl rfl ⟨rfl, rfl, rfl, rfl, rfl⟩ rfl rfl rfl rfl rfl (by kernel_rfl) Tryz.func9 (by kernel_rfl)
    (of_decide_eq_true (by kernel_rfl)) (by unfold Func.isWrapper; first | (rw [if_pos (by decide +kernel)]; kernel_rfl) | (rw [if_neg (by decide +kernel)]; exact ⟨rfl, rfl⟩))
    (fun os started H enc _ F => by rw [OpenClaim.pre_eq_preRow]; exact kgaps_lifted os started H enc F)

set_option maxRecDepth 100000 in
theorem kgaps_plain (f : FuncId) (fn : Func) (hf : Tryz.pinned.checked.prog.funcNamed "identity/identitylaw24.KeysGaps" = some f) (hfn : Tryz.pinned.checked.prog.funcs[f]? = some fn) :
    true = Tryz.pinned.checked.prog.looks [] ∧ ∀ (j : Nat) t, fn.params[j]? = some t → Tryz.pinned.checked.prog.wantsStandIn t = false := by
  obtain rfl : f = 9 := Option.some.inj ((show Tryz.prog.funcNamed "identity/identitylaw24.KeysGaps" = some 9 by kernel_rfl).symm.trans hf) |>.symm
  obtain rfl : fn = Tryz.f9 := (Option.some.inj (Tryz.func9.symm.trans hfn)).symm
  refine ⟨by kernel_rfl, fun j t ht => ?_⟩
  rw [Tryz.params9] at ht
  have hm : t ∈ [22, 29, 3] := by simpa using Array.mem_of_getElem? ht
  have hall : ([22, 29, 3].all fun u => !Tryz.prog.wantsStandIn u) = true := by kernel_rfl
  exact (show Tryz.prog.wantsStandIn t = false by simpa using List.all_eq_true.1 hall t hm)

/-- THE CARD -/
theorem kgaps_card : Rows.KeysGapsCardSaid :=
  Claim7.holds_tied_plain_at .later [] _ _ _ _ kgaps_said (fun _ h => by cases h) (by kernel_rfl) (fun _ h => by cases h) keysGaps_row_tie rfl ⟨rfl, rfl⟩ (by kernel_rfl) rfl kgaps_plain (by kernel_rfl)
end Go.Proofs.YtgepcbggkfjlgaaGreatDoor
end
