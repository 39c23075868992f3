/- law DotUnder. -/
import Derived.Test.YtdcmoeklldkccaaDotBox
import Derived.Test.YtdcmoeklldkccaaDotLk
namespace Go.Proofs.Ytdcmoeklldkccaa
open Go Go.RowKit Go.ChangeShapes cl Go.Sort

def allB (b : dm.Ctx) (l : List Dot) : Bool := l.all fun x => !valid x || dm.hasF b x
theorem allB_snoc {b : dm.Ctx} {l : List Dot} {k : Nat} (h : k < l.length) : allB b (l.take (k + 1)) = (allB b (l.take k) && (!valid (l.getD k (0, 0)) || dm.hasF b (l.getD k (0, 0)))) := by
  unfold allB
  rw [dm.take_snoc h, List.all_append]
  simp
theorem allB_iff {b : dm.Ctx} {l : List Dot} {T : Dot → Prop} {m : Nat} (hb : dm.Is b T m) : allB b l = true ↔ ∀ d, valid d = true ∧ d ∈ l → T d := by
  unfold allB
  rw [List.all_eq_true]
  constructor
  · rintro h d ⟨hv, hd⟩
    have := h d hd
    rw [hv] at this
    exact (hasF_is hb d).1 (by simpa using this)
  · intro h d hd
    cases hv : valid d with
    | false => rfl
    | true => simpa using (hasF_is hb d).2 (h d ⟨hv, hd⟩)
set_option maxHeartbeats 6400000 in
set_option maxRecDepth 100000 in
theorem under_law (l m n : List Dot) (vl vm vn : Value) (w : World) (hl : Dots w w.heap.size vl l) (hm : Dots w w.heap.size vm m) (hn : Dots w w.heap.size vn n) :
    Calls Try.prog 9 #[vl, vm, vn] w (Said true w) := by
  obtain ⟨nl, hnl⟩ : ∃ q, q = l.length := ⟨_, rfl⟩
  obtain ⟨aol, cpl, rfl⟩ : ∃ ao cap, vl = .slice ao nl cap := by
    obtain ⟨ao, cap, e, _⟩ := hl.form
    exact ⟨ao, cap, by rw [hnl]; exact e⟩
  have hfl : nl ≤ 9223372036854775807 := by
    obtain ⟨_, _, e, _, h9⟩ := hl.form
    rw [hnl]; unfold maxLen at h9; exact h9
  have HNl := Lib.hid hnl
  have HDl : Hid (∀ W, Below w.heap.size w W → Dots W W.heap.size (.slice aol nl cpl) l) := fun W hW => (hl.below hW).mono hW.size
  clear hnl hl
  obtain ⟨nm, hnm⟩ : ∃ q, q = m.length := ⟨_, rfl⟩
  obtain ⟨aom, cpm, rfl⟩ : ∃ ao cap, vm = .slice ao nm cap := by
    obtain ⟨ao, cap, e, _⟩ := hm.form
    exact ⟨ao, cap, by rw [hnm]; exact e⟩
  have hfm : nm ≤ 9223372036854775807 := by
    obtain ⟨_, _, e, _, h9⟩ := hm.form
    rw [hnm]; unfold maxLen at h9; exact h9
  have HNm := Lib.hid hnm
  have HDm : Hid (∀ W, Below w.heap.size w W → Dots W W.heap.size (.slice aom nm cpm) m) := fun W hW => (hm.below hW).mono hW.size
  clear hnm hm
  obtain ⟨nn, hnn⟩ : ∃ q, q = n.length := ⟨_, rfl⟩
  obtain ⟨aon, cpn, rfl⟩ : ∃ ao cap, vn = .slice ao nn cap := by
    obtain ⟨ao, cap, e, _⟩ := hn.form
    exact ⟨ao, cap, by rw [hnn]; exact e⟩
  have hfn : nn ≤ 9223372036854775807 := by
    obtain ⟨_, _, e, _, h9⟩ := hn.form
    rw [hnn]; unfold maxLen at h9; exact h9
  have HNn := Lib.hid hnn
  have HDn : Hid (∀ W, Below w.heap.size w W → Dots W W.heap.size (.slice aon nn cpn) n) := fun W hW => (hn.below hW).mono hW.size
  clear hnn hn
  have HAW : Hid (∀ W, Calls Try.prog 11 #[] W (Said true W)) := fun W => awake_any W
  by_cases cl : 40 < nl
  · have cl1 : (40 : Int) < (nl : Int) := by omega
    have cl2 : decide ((40 : Int) < (nl : Int)) = true := decide_eq_true cl1
    go_enter Try.func9, Try.ntmps9
    go_wp2_with fail
    (with_reducible refine (HAW.out _).mono ?_)
    rintro e w1 ⟨rfl, b1⟩
    go_wp2
    go_ret
    exact ⟨rfl, b1⟩
  have cl1 : ¬ (40 : Int) < (nl : Int) := by omega
  have cl2 : decide ((40 : Int) < (nl : Int)) = false := decide_eq_false cl1
  by_cases cm : 40 < nm
  · have cm1 : (40 : Int) < (nm : Int) := by omega
    have cm2 : decide ((40 : Int) < (nm : Int)) = true := decide_eq_true cm1
    go_enter Try.func9, Try.ntmps9
    go_wp2_with fail
    (with_reducible refine (HAW.out _).mono ?_)
    rintro e w1 ⟨rfl, b1⟩
    go_wp2
    go_ret
    exact ⟨rfl, b1⟩
  have cm1 : ¬ (40 : Int) < (nm : Int) := by omega
  have cm2 : decide ((40 : Int) < (nm : Int)) = false := decide_eq_false cm1
  by_cases cn : 40 < nn
  · have cn1 : (40 : Int) < (nn : Int) := by omega
    have cn2 : decide ((40 : Int) < (nn : Int)) = true := decide_eq_true cn1
    go_enter Try.func9, Try.ntmps9
    go_wp2_with fail
    (with_reducible refine (HAW.out _).mono ?_)
    rintro e w1 ⟨rfl, b1⟩
    go_wp2
    go_ret
    exact ⟨rfl, b1⟩
  have cn1 : ¬ (40 : Int) < (nn : Int) := by omega
  have cn2 : decide ((40 : Int) < (nn : Int)) = false := decide_eq_false cn1
  go_enter Try.func9, Try.ntmps9
  have HF0 := Lib.hid (from_says HDl.out (by have := HNl.out; omega) w (Below.refl _ _))
  go_wp2_with fail
  (with_reducible refine HF0.out.mono ?_)
  rintro e w1 ⟨p01, p02, p03, p04, p05, p06, a, rfl, hc0, his0, hb0⟩
  have HI0 := Lib.hid his0
  have B1 := hb0
  clear his0 HF0
  have HF1 := Lib.hid (from_says HDm.out (by have := HNm.out; omega) w1 B1)
  go_wp2_with fail
  (with_reducible refine HF1.out.mono ?_)
  rintro e w2 ⟨p11, p12, p13, p14, p15, p16, b, rfl, hc1, his1, hb1⟩
  have HI1 := Lib.hid his1
  have B2 := B1.trans (hb1.mono B1.size)
  have hc0 := hc0.next hb1
  clear his1 HF1 hb1
  have HF2 := Lib.hid (from_says HDn.out (by have := HNn.out; omega) w2 B2)
  go_wp2_with fail
  (with_reducible refine HF2.out.mono ?_)
  rintro e w3 ⟨p21, p22, p23, p24, p25, p26, c, rfl, hc2, his2, hb2⟩
  have HI2 := Lib.hid his2
  have B3 := B2.trans (hb2.mono B2.size)
  have hc0 := hc0.next hb2
  have hc1 := hc1.next hb2
  clear his2 HF2 hb2
  obtain ⟨W0, hW0⟩ : ∃ W, W = ((w3.alloc (.cells #[.slice p01 p02 p03, .slice p04 p05 p06] 24)).alloc (.cells #[.slice p11 p12 p13, .slice p14 p15 p16] 24)).alloc (.cells #[.slice p21 p22 p23, .slice p24 p25 p26] 24) := ⟨_, rfl⟩
  have s1 : (w3.alloc (.cells #[.slice p01 p02 p03, .slice p04 p05 p06] 24)).heap.size = w3.heap.size + 1 := World.size_alloc _ _
  have s2 : ((w3.alloc (.cells #[.slice p01 p02 p03, .slice p04 p05 p06] 24)).alloc (.cells #[.slice p11 p12 p13, .slice p14 p15 p16] 24)).heap.size = w3.heap.size + 1 + 1 := by rw [World.size_alloc, s1]
  have k1 : Below w3.heap.size w3 (w3.alloc (.cells #[.slice p01 p02 p03, .slice p04 p05 p06] 24)) := ctx_below
  have k2 : Below (w3.alloc (.cells #[.slice p01 p02 p03, .slice p04 p05 p06] 24)).heap.size (w3.alloc (.cells #[.slice p01 p02 p03, .slice p04 p05 p06] 24)) ((w3.alloc (.cells #[.slice p01 p02 p03, .slice p04 p05 p06] 24)).alloc (.cells #[.slice p11 p12 p13, .slice p14 p15 p16] 24)) := ctx_below
  have k3 : Below ((w3.alloc (.cells #[.slice p01 p02 p03, .slice p04 p05 p06] 24)).alloc (.cells #[.slice p11 p12 p13, .slice p14 p15 p16] 24)).heap.size ((w3.alloc (.cells #[.slice p01 p02 p03, .slice p04 p05 p06] 24)).alloc (.cells #[.slice p11 p12 p13, .slice p14 p15 p16] 24)) (((w3.alloc (.cells #[.slice p01 p02 p03, .slice p04 p05 p06] 24)).alloc (.cells #[.slice p11 p12 p13, .slice p14 p15 p16] 24)).alloc (.cells #[.slice p21 p22 p23, .slice p24 p25 p26] 24)) := ctx_below
  have X0 : Hid (KB W0 w3.heap.size p01 p02 p03 p04 p05 p06 a) := by rw [hW0]; exact KB.mk (((CBox.mk' hc0 rfl).next k2).next k3)
  have X1 : Hid (KB W0 (w3.heap.size + 1) p11 p12 p13 p14 p15 p16 b) := by rw [hW0]; exact KB.mk ((CBox.mk' (hc1.next k1) s1.symm).next k3)
  have X2 : Hid (KB W0 (w3.heap.size + 1 + 1) p21 p22 p23 p24 p25 p26 c) := by rw [hW0]; exact KB.mk (CBox.mk' ((hc2.next k1).next k2) s2.symm)
  have E0 : Below w.heap.size w W0 := by rw [hW0]; exact B3.trans ((k1.trans (k2.trans (k3.mono (by omega)) |>.mono (by omega))).mono B3.size)
  have D : Below W0.heap.size W0 W0 := Below.refl _ _
  have HW0 := Lib.hid hW0
  clear hW0 s1 s2 k1 k2 k3 hc0 hc1 hc2 B1 B2 B3
  have HVA : Hid (∀ (d : Dot) W, Calls Try.prog 12 #[.agg #[.int .i64 d.1, .int .i64 d.2]] W (Said (valid d) W)) := fun d W => valid_any d W
  have HHB : Hid (∀ (d : Dot) W, Below W0.heap.size W0 W → Calls Try.prog 16 #[.agg #[.slice p11 p12 p13, .slice p14 p15 p16], .agg #[.int .i64 d.1, .int .i64 d.2]] W (Said (dm.hasF b d) W)) := fun d W hW => has_says X1.out d W hW
  have HLd : Hid (∀ W, Below W0.heap.size W0 W → Dots W W.heap.size (.slice aol nl cpl) l) := fun W hW => HDl.out W (E0.trans (hW.mono E0.size))
  go_wp2_with fail
  rw [← HW0.out]
  go_loopw [10, 35, 50] (fun r i _ wr => ∃ (k : Nat) (A : Bool), i = .int .i64 k ∧ k ≤ nl ∧ r = .bool A ∧ Hid (A = allB b (l.take k)) ∧ Below W0.heap.size W0 wr) (fun _ i _ _ => nl - (intOf i).toNat)
  case atStart => exact ⟨0, true, rfl, Nat.zero_le _, rfl, rfl, D⟩
  case round =>
    clear D
    obtain ⟨k, A, rfl, hk, rfl, HA, D⟩ := hrel
    by_cases hlt : k < nl
    · have HKL : Hid (k < l.length) := by show k < l.length; rw [← HNl.out]; exact hlt
      have HSN := Lib.hid (allB_snoc (b := b) HKL.out)
      obtain ⟨b0, off, rfl, hB, p0, p1⟩ := Dots.get (HLd.out _ D) HNl.out hlt
      obtain ⟨⟨u, v⟩, hx⟩ : ∃ x, x = l.getD k (0, 0) := ⟨_, rfl⟩
      rw [← hx, ← HA.out] at HSN
      rw [← hx] at p0 p1
      simp only at p0 p1
      have hkI : (k : Int) < (nl : Int) := by omega
      clear hx
      have hal : Below wr.heap.size wr (wr.alloc (.cells #[.int .i64 u, .int .i64 v] 26)) := ctx_below
      have c0 : (wr.alloc (.cells #[.int .i64 u, .int .i64 v] 26)).cell? ⟨wr.heap.size, 0, none⟩ = some (.int .i64 u) := World.cell?_alloc_at _ _ _ _ rfl
      have c1 : (wr.alloc (.cells #[.int .i64 u, .int .i64 v] 26)).cell? ⟨wr.heap.size, 1, none⟩ = some (.int .i64 v) := World.cell?_alloc_at _ _ _ _ rfl
      have hsz : (wr.alloc (.cells #[.int .i64 u, .int .i64 v] 26)).heap.size = wr.heap.size + 1 := World.size_alloc _ _
      have HC := Lib.hid (And.intro c0 (And.intro c1 hsz))
      have D1 := D.trans (hal.mono D.size)
      clear c0 c1 hsz
      cases A with
      | false =>
        have HA2 : Hid (false = allB b (l.take (k + 1))) := by show _ = _; rw [HSN.out]; rfl
        go_wp2
        go_roundw
        case rel => exact ⟨k + 1, false, by go_num, by omega, rfl, HA2, D1⟩
        case measure => simp [intOf]; omega
      | true =>
        have HV1 := Lib.hid (HVA.out (u, v))
        cases hv : valid (u, v) with
        | false =>
          rw [hv] at HV1 HSN
          have HA2 : Hid (true = allB b (l.take (k + 1))) := by show _ = _; rw [HSN.out]; rfl
          clear hv
          go_wp2_with fail
          (with_reducible refine (HV1.out _).mono ?_)
          rintro e w5 ⟨rfl, b5⟩
          have D2 := D1.trans (b5.mono D1.size)
          clear b5
          go_wp2
          go_roundw
          case rel => exact ⟨k + 1, true, by go_num, by omega, rfl, HA2, D2⟩
          case measure => simp [intOf]; omega
        | true =>
          rw [hv] at HV1 HSN
          have HA2 : Hid (dm.hasF b (u, v) = allB b (l.take (k + 1))) := by show _ = _; rw [HSN.out]; rfl
          clear hv
          go_wp2_with fail
          (with_reducible refine (HV1.out _).mono ?_)
          rintro e w5 ⟨rfl, b5⟩
          have D2 := D1.trans (b5.mono D1.size)
          have e0 := (b5.cell (p := ⟨wr.heap.size, 0, none⟩) (by rw [HC.out.2.2]; exact Nat.lt_succ_self _)).trans HC.out.1
          have e1 := (b5.cell (p := ⟨wr.heap.size, 1, none⟩) (by rw [HC.out.2.2]; exact Nat.lt_succ_self _)).trans HC.out.2.1
          obtain ⟨x1, y1, _, _⟩ := X1.out _ D2
          have HH := Lib.hid (HHB.out (u, v) _ D2)
          generalize dm.hasF b (u, v) = R at HH HA2
          clear b5
          go_wp2_with fail
          (with_reducible refine HH.out.mono ?_)
          rintro e w6 ⟨rfl, b6⟩
          have D3 := D2.trans (b6.mono D2.size)
          clear b6 HH
          go_wp2
          go_roundw
          case rel => exact ⟨k + 1, R, by go_num, by omega, rfl, HA2, D3⟩
          case measure => simp [intOf]; omega
    · obtain rfl : k = nl := by omega
      have hall : l.take k = l := List.take_of_length_le (by rw [HNl.out]; exact Nat.le_refl _)
      rw [hall] at HA
      have hab : underB a b = A := by
        rw [HA.out, Bool.eq_iff_iff, underB_is HI0.out HI1.out, allB_iff HI1.out]
      have HTR : Hid (underB a b = true → underB b c = true → underB a c = true) := fun h1 h2 => (underB_is HI0.out HI2.out).2 fun d hd => (underB_is HI1.out HI2.out).1 h2 d ((underB_is HI0.out HI1.out).1 h1 d hd)
      have HSE : Hid (underB a b = true → underB b a = true → a = b) := fun h1 h2 => HI0.out.eq HI1.out fun d => ⟨(underB_is HI0.out HI1.out).1 h1 d, (underB_is HI1.out HI0.out).1 h2 d⟩
      have UAB : Hid (∀ W, Below W0.heap.size W0 W → Calls Try.prog 26 #[.agg #[.slice p01 p02 p03, .slice p04 p05 p06], .agg #[.slice p11 p12 p13, .slice p14 p15 p16]] W (Said (underB a b) W)) := under_says X0.out X1.out HI0.out HI1.out (by omega) (by omega)
      have UBA : Hid (∀ W, Below W0.heap.size W0 W → Calls Try.prog 26 #[.agg #[.slice p11 p12 p13, .slice p14 p15 p16], .agg #[.slice p01 p02 p03, .slice p04 p05 p06]] W (Said (underB b a) W)) := under_says X1.out X0.out HI1.out HI0.out (by omega) (by omega)
      have UBC : Hid (∀ W, Below W0.heap.size W0 W → Calls Try.prog 26 #[.agg #[.slice p11 p12 p13, .slice p14 p15 p16], .agg #[.slice p21 p22 p23, .slice p24 p25 p26]] W (Said (underB b c) W)) := under_says X1.out X2.out HI1.out HI2.out (by omega) (by omega)
      have UAC : Hid (∀ W, Below W0.heap.size W0 W → Calls Try.prog 26 #[.agg #[.slice p01 p02 p03, .slice p04 p05 p06], .agg #[.slice p21 p22 p23, .slice p24 p25 p26]] W (Said (underB a c) W)) := under_says X0.out X2.out HI0.out HI2.out (by omega) (by omega)
      have SAB : Hid (∀ W, Below W0.heap.size W0 W → Calls Try.prog 25 #[.agg #[.slice p01 p02 p03, .slice p04 p05 p06], .agg #[.slice p11 p12 p13, .slice p14 p15 p16]] W (Said (decide (a = b)) W)) := same_says X0.out X1.out
      have HAB := Lib.hid hab
      clear hab hall HA
      cases hu : underB a b with
      | false =>
        rw [hu] at UAB HAB
        obtain rfl : false = A := HAB.out
        clear hu HAB
        obtain ⟨x0, y0, _, _⟩ := X0.out _ D
        obtain ⟨x1, y1, _, _⟩ := X1.out _ D
        obtain ⟨x2, y2, _, _⟩ := X2.out _ D
        go_wp2_with fail
        (with_reducible refine (UAB.out _ D).mono ?_)
        rintro e v1 ⟨rfl, b1⟩
        replace D := D.trans (b1.mono D.size)
        clear b1 x0 x1 x2 y0 y1 y2
        obtain ⟨x0, y0, _, _⟩ := X0.out _ D
        obtain ⟨x1, y1, _, _⟩ := X1.out _ D
        obtain ⟨x2, y2, _, _⟩ := X2.out _ D
        go_wp2_with fail
        (with_reducible refine (UAB.out _ D).mono ?_)
        rintro e v2 ⟨rfl, b2⟩
        replace D := D.trans (b2.mono D.size)
        clear b2 x0 x1 x2 y0 y1 y2
        obtain ⟨x0, y0, _, _⟩ := X0.out _ D
        obtain ⟨x1, y1, _, _⟩ := X1.out _ D
        obtain ⟨x2, y2, _, _⟩ := X2.out _ D
        go_wp2_with fail
        (with_reducible refine (UAB.out _ D).mono ?_)
        rintro e v3 ⟨rfl, b3⟩
        replace D := D.trans (b3.mono D.size)
        clear b3 x0 x1 x2 y0 y1 y2
        obtain ⟨x0, y0, _, _⟩ := X0.out _ D
        obtain ⟨x1, y1, _, _⟩ := X1.out _ D
        obtain ⟨x2, y2, _, _⟩ := X2.out _ D
        go_wp2_with fail
        (with_reducible refine (HAW.out _).mono ?_)
        rintro e v20 ⟨rfl, b20⟩
        replace D := D.trans (b20.mono D.size)
        have hb9 := E0.trans (D.mono E0.size)
        clear x0 x1 x2 y0 y1 y2
        go_wp2
        go_ret
        exact ⟨rfl, hb9⟩
      | true =>
        rw [hu] at UAB HAB
        obtain rfl : true = A := HAB.out
        have HTR2 := Lib.hid (HTR.out hu)
        have HSE2 := Lib.hid (HSE.out hu)
        clear HAB hu
        cases hbc : underB b c with
        | false =>
          rw [hbc] at UBC
          clear hbc
          cases hba : underB b a with
          | false =>
            rw [hba] at UBA
            clear hba
            obtain ⟨x0, y0, _, _⟩ := X0.out _ D
            obtain ⟨x1, y1, _, _⟩ := X1.out _ D
            obtain ⟨x2, y2, _, _⟩ := X2.out _ D
            go_wp2_with fail
            (with_reducible refine (UAB.out _ D).mono ?_)
            rintro e v1 ⟨rfl, b1⟩
            replace D := D.trans (b1.mono D.size)
            clear b1 x0 x1 x2 y0 y1 y2
            obtain ⟨x0, y0, _, _⟩ := X0.out _ D
            obtain ⟨x1, y1, _, _⟩ := X1.out _ D
            obtain ⟨x2, y2, _, _⟩ := X2.out _ D
            go_wp2_with fail
            (with_reducible refine (UAB.out _ D).mono ?_)
            rintro e v2 ⟨rfl, b2⟩
            replace D := D.trans (b2.mono D.size)
            clear b2 x0 x1 x2 y0 y1 y2
            obtain ⟨x0, y0, _, _⟩ := X0.out _ D
            obtain ⟨x1, y1, _, _⟩ := X1.out _ D
            obtain ⟨x2, y2, _, _⟩ := X2.out _ D
            go_wp2_with fail
            (with_reducible refine (UBC.out _ D).mono ?_)
            rintro e v3 ⟨rfl, b3⟩
            replace D := D.trans (b3.mono D.size)
            clear b3 x0 x1 x2 y0 y1 y2
            obtain ⟨x0, y0, _, _⟩ := X0.out _ D
            obtain ⟨x1, y1, _, _⟩ := X1.out _ D
            obtain ⟨x2, y2, _, _⟩ := X2.out _ D
            go_wp2_with fail
            (with_reducible refine (UAB.out _ D).mono ?_)
            rintro e v5 ⟨rfl, b5⟩
            replace D := D.trans (b5.mono D.size)
            clear b5 x0 x1 x2 y0 y1 y2
            obtain ⟨x0, y0, _, _⟩ := X0.out _ D
            obtain ⟨x1, y1, _, _⟩ := X1.out _ D
            obtain ⟨x2, y2, _, _⟩ := X2.out _ D
            go_wp2_with fail
            (with_reducible refine (UBA.out _ D).mono ?_)
            rintro e v6 ⟨rfl, b6⟩
            replace D := D.trans (b6.mono D.size)
            clear b6 x0 x1 x2 y0 y1 y2
            obtain ⟨x0, y0, _, _⟩ := X0.out _ D
            obtain ⟨x1, y1, _, _⟩ := X1.out _ D
            obtain ⟨x2, y2, _, _⟩ := X2.out _ D
            go_wp2_with fail
            (with_reducible refine (HAW.out _).mono ?_)
            rintro e v20 ⟨rfl, b20⟩
            replace D := D.trans (b20.mono D.size)
            have hb9 := E0.trans (D.mono E0.size)
            clear x0 x1 x2 y0 y1 y2
            go_wp2
            go_ret
            exact ⟨rfl, hb9⟩
          | true =>
            rw [hba] at UBA
            have hab := HSE2.out hba
            rw [decide_eq_true hab] at SAB
            clear hab
            clear hba
            obtain ⟨x0, y0, _, _⟩ := X0.out _ D
            obtain ⟨x1, y1, _, _⟩ := X1.out _ D
            obtain ⟨x2, y2, _, _⟩ := X2.out _ D
            go_wp2_with fail
            (with_reducible refine (UAB.out _ D).mono ?_)
            rintro e v1 ⟨rfl, b1⟩
            replace D := D.trans (b1.mono D.size)
            clear b1 x0 x1 x2 y0 y1 y2
            obtain ⟨x0, y0, _, _⟩ := X0.out _ D
            obtain ⟨x1, y1, _, _⟩ := X1.out _ D
            obtain ⟨x2, y2, _, _⟩ := X2.out _ D
            go_wp2_with fail
            (with_reducible refine (UAB.out _ D).mono ?_)
            rintro e v2 ⟨rfl, b2⟩
            replace D := D.trans (b2.mono D.size)
            clear b2 x0 x1 x2 y0 y1 y2
            obtain ⟨x0, y0, _, _⟩ := X0.out _ D
            obtain ⟨x1, y1, _, _⟩ := X1.out _ D
            obtain ⟨x2, y2, _, _⟩ := X2.out _ D
            go_wp2_with fail
            (with_reducible refine (UBC.out _ D).mono ?_)
            rintro e v3 ⟨rfl, b3⟩
            replace D := D.trans (b3.mono D.size)
            clear b3 x0 x1 x2 y0 y1 y2
            obtain ⟨x0, y0, _, _⟩ := X0.out _ D
            obtain ⟨x1, y1, _, _⟩ := X1.out _ D
            obtain ⟨x2, y2, _, _⟩ := X2.out _ D
            go_wp2_with fail
            (with_reducible refine (UAB.out _ D).mono ?_)
            rintro e v5 ⟨rfl, b5⟩
            replace D := D.trans (b5.mono D.size)
            clear b5 x0 x1 x2 y0 y1 y2
            obtain ⟨x0, y0, _, _⟩ := X0.out _ D
            obtain ⟨x1, y1, _, _⟩ := X1.out _ D
            obtain ⟨x2, y2, _, _⟩ := X2.out _ D
            go_wp2_with fail
            (with_reducible refine (UBA.out _ D).mono ?_)
            rintro e v6 ⟨rfl, b6⟩
            replace D := D.trans (b6.mono D.size)
            clear b6 x0 x1 x2 y0 y1 y2
            obtain ⟨x0, y0, _, _⟩ := X0.out _ D
            obtain ⟨x1, y1, _, _⟩ := X1.out _ D
            obtain ⟨x2, y2, _, _⟩ := X2.out _ D
            go_wp2_with fail
            (with_reducible refine (SAB.out _ D).mono ?_)
            rintro e v7 ⟨rfl, b7⟩
            replace D := D.trans (b7.mono D.size)
            clear b7 x0 x1 x2 y0 y1 y2
            obtain ⟨x0, y0, _, _⟩ := X0.out _ D
            obtain ⟨x1, y1, _, _⟩ := X1.out _ D
            obtain ⟨x2, y2, _, _⟩ := X2.out _ D
            go_wp2_with fail
            (with_reducible refine (HAW.out _).mono ?_)
            rintro e v20 ⟨rfl, b20⟩
            replace D := D.trans (b20.mono D.size)
            have hb9 := E0.trans (D.mono E0.size)
            clear x0 x1 x2 y0 y1 y2
            go_wp2
            go_ret
            exact ⟨rfl, hb9⟩
        | true =>
          rw [hbc] at UBC
          have hac := HTR2.out hbc
          rw [hac] at UAC
          clear hac
          clear hbc
          cases hba : underB b a with
          | false =>
            rw [hba] at UBA
            clear hba
            obtain ⟨x0, y0, _, _⟩ := X0.out _ D
            obtain ⟨x1, y1, _, _⟩ := X1.out _ D
            obtain ⟨x2, y2, _, _⟩ := X2.out _ D
            go_wp2_with fail
            (with_reducible refine (UAB.out _ D).mono ?_)
            rintro e v1 ⟨rfl, b1⟩
            replace D := D.trans (b1.mono D.size)
            clear b1 x0 x1 x2 y0 y1 y2
            obtain ⟨x0, y0, _, _⟩ := X0.out _ D
            obtain ⟨x1, y1, _, _⟩ := X1.out _ D
            obtain ⟨x2, y2, _, _⟩ := X2.out _ D
            go_wp2_with fail
            (with_reducible refine (UAB.out _ D).mono ?_)
            rintro e v2 ⟨rfl, b2⟩
            replace D := D.trans (b2.mono D.size)
            clear b2 x0 x1 x2 y0 y1 y2
            obtain ⟨x0, y0, _, _⟩ := X0.out _ D
            obtain ⟨x1, y1, _, _⟩ := X1.out _ D
            obtain ⟨x2, y2, _, _⟩ := X2.out _ D
            go_wp2_with fail
            (with_reducible refine (UBC.out _ D).mono ?_)
            rintro e v3 ⟨rfl, b3⟩
            replace D := D.trans (b3.mono D.size)
            clear b3 x0 x1 x2 y0 y1 y2
            obtain ⟨x0, y0, _, _⟩ := X0.out _ D
            obtain ⟨x1, y1, _, _⟩ := X1.out _ D
            obtain ⟨x2, y2, _, _⟩ := X2.out _ D
            go_wp2_with fail
            (with_reducible refine (UAC.out _ D).mono ?_)
            rintro e v4 ⟨rfl, b4⟩
            replace D := D.trans (b4.mono D.size)
            clear b4 x0 x1 x2 y0 y1 y2
            obtain ⟨x0, y0, _, _⟩ := X0.out _ D
            obtain ⟨x1, y1, _, _⟩ := X1.out _ D
            obtain ⟨x2, y2, _, _⟩ := X2.out _ D
            go_wp2_with fail
            (with_reducible refine (UAB.out _ D).mono ?_)
            rintro e v5 ⟨rfl, b5⟩
            replace D := D.trans (b5.mono D.size)
            clear b5 x0 x1 x2 y0 y1 y2
            obtain ⟨x0, y0, _, _⟩ := X0.out _ D
            obtain ⟨x1, y1, _, _⟩ := X1.out _ D
            obtain ⟨x2, y2, _, _⟩ := X2.out _ D
            go_wp2_with fail
            (with_reducible refine (UBA.out _ D).mono ?_)
            rintro e v6 ⟨rfl, b6⟩
            replace D := D.trans (b6.mono D.size)
            clear b6 x0 x1 x2 y0 y1 y2
            obtain ⟨x0, y0, _, _⟩ := X0.out _ D
            obtain ⟨x1, y1, _, _⟩ := X1.out _ D
            obtain ⟨x2, y2, _, _⟩ := X2.out _ D
            go_wp2_with fail
            (with_reducible refine (HAW.out _).mono ?_)
            rintro e v20 ⟨rfl, b20⟩
            replace D := D.trans (b20.mono D.size)
            have hb9 := E0.trans (D.mono E0.size)
            clear x0 x1 x2 y0 y1 y2
            go_wp2
            go_ret
            exact ⟨rfl, hb9⟩
          | true =>
            rw [hba] at UBA
            have hab := HSE2.out hba
            rw [decide_eq_true hab] at SAB
            clear hab
            clear hba
            obtain ⟨x0, y0, _, _⟩ := X0.out _ D
            obtain ⟨x1, y1, _, _⟩ := X1.out _ D
            obtain ⟨x2, y2, _, _⟩ := X2.out _ D
            go_wp2_with fail
            (with_reducible refine (UAB.out _ D).mono ?_)
            rintro e v1 ⟨rfl, b1⟩
            replace D := D.trans (b1.mono D.size)
            clear b1 x0 x1 x2 y0 y1 y2
            obtain ⟨x0, y0, _, _⟩ := X0.out _ D
            obtain ⟨x1, y1, _, _⟩ := X1.out _ D
            obtain ⟨x2, y2, _, _⟩ := X2.out _ D
            go_wp2_with fail
            (with_reducible refine (UAB.out _ D).mono ?_)
            rintro e v2 ⟨rfl, b2⟩
            replace D := D.trans (b2.mono D.size)
            clear b2 x0 x1 x2 y0 y1 y2
            obtain ⟨x0, y0, _, _⟩ := X0.out _ D
            obtain ⟨x1, y1, _, _⟩ := X1.out _ D
            obtain ⟨x2, y2, _, _⟩ := X2.out _ D
            go_wp2_with fail
            (with_reducible refine (UBC.out _ D).mono ?_)
            rintro e v3 ⟨rfl, b3⟩
            replace D := D.trans (b3.mono D.size)
            clear b3 x0 x1 x2 y0 y1 y2
            obtain ⟨x0, y0, _, _⟩ := X0.out _ D
            obtain ⟨x1, y1, _, _⟩ := X1.out _ D
            obtain ⟨x2, y2, _, _⟩ := X2.out _ D
            go_wp2_with fail
            (with_reducible refine (UAC.out _ D).mono ?_)
            rintro e v4 ⟨rfl, b4⟩
            replace D := D.trans (b4.mono D.size)
            clear b4 x0 x1 x2 y0 y1 y2
            obtain ⟨x0, y0, _, _⟩ := X0.out _ D
            obtain ⟨x1, y1, _, _⟩ := X1.out _ D
            obtain ⟨x2, y2, _, _⟩ := X2.out _ D
            go_wp2_with fail
            (with_reducible refine (UAB.out _ D).mono ?_)
            rintro e v5 ⟨rfl, b5⟩
            replace D := D.trans (b5.mono D.size)
            clear b5 x0 x1 x2 y0 y1 y2
            obtain ⟨x0, y0, _, _⟩ := X0.out _ D
            obtain ⟨x1, y1, _, _⟩ := X1.out _ D
            obtain ⟨x2, y2, _, _⟩ := X2.out _ D
            go_wp2_with fail
            (with_reducible refine (UBA.out _ D).mono ?_)
            rintro e v6 ⟨rfl, b6⟩
            replace D := D.trans (b6.mono D.size)
            clear b6 x0 x1 x2 y0 y1 y2
            obtain ⟨x0, y0, _, _⟩ := X0.out _ D
            obtain ⟨x1, y1, _, _⟩ := X1.out _ D
            obtain ⟨x2, y2, _, _⟩ := X2.out _ D
            go_wp2_with fail
            (with_reducible refine (SAB.out _ D).mono ?_)
            rintro e v7 ⟨rfl, b7⟩
            replace D := D.trans (b7.mono D.size)
            clear b7 x0 x1 x2 y0 y1 y2
            obtain ⟨x0, y0, _, _⟩ := X0.out _ D
            obtain ⟨x1, y1, _, _⟩ := X1.out _ D
            obtain ⟨x2, y2, _, _⟩ := X2.out _ D
            go_wp2_with fail
            (with_reducible refine (HAW.out _).mono ?_)
            rintro e v20 ⟨rfl, b20⟩
            replace D := D.trans (b20.mono D.size)
            have hb9 := E0.trans (D.mono E0.size)
            clear x0 x1 x2 y0 y1 y2
            go_wp2
            go_ret
            exact ⟨rfl, hb9⟩
end Go.Proofs.Ytdcmoeklldkccaa
