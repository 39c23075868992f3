/- texts put together: OrsApp, OrsHom, OrsInv, OrsMean. -/
import Derived.Test.YthpdmfkpiekonaaGreatOh19
import Derived.Test.YthpdmfkpiekonaaGreatOh20
namespace Go.Proofs.YthpdmfkpiekonaaGreat
open Go Go.RowKit Go.ChangeShapes cl Go.WideMaps Go.Maps
def newOf (c : dm.Ctx) (l : List Ent) : List Ent := l.filter fun x => !dm.hasF c x.d
theorem newOf_snoc (c : dm.Ctx) (l : List Ent) (x : Ent) : newOf c (l ++ [x]) = if dm.hasF c x.d then newOf c l else newOf c l ++ [x] := by
 unfold newOf
 rw [List.filter_append]
 cases h : dm.hasF c x.d <;> simp [h]
theorem nodup_app {l L : List Ent} {c : dm.Ctx} {p : Ent → Bool} (hr : RSet l c) (hu : os.Up L) : ((staysOf p l ++ newOf c L).map Ent.d).Nodup := by
 rw [List.map_append, List.nodup_append]
 refine ⟨(nodup_of hr.up).sublist (List.Sublist.map _ List.filter_sublist), (nodup_of hu).sublist (List.Sublist.map _ List.filter_sublist), fun a ha b hb e => ?_⟩
 obtain ⟨y, hy, rfl⟩ := List.mem_map.1 ha
 obtain ⟨z, hz, rfl⟩ := List.mem_map.1 hb
 have h1 := hr.kn y (List.mem_filter.1 hy).1
 have h2 := (List.mem_filter.1 hz).2
 rw [e] at h1
 rw [dm.hasF_iff.2 h1] at h2
 cases h2
def ApplyP (l : List Ent) (c : dm.Ctx) (L : List Ent) (A : List Dot) (dc : dm.Ctx) (w : World) (e : Ending) (w' : World) : Prop :=
 ∃ (u0 u1 u2 : Value) (L' : List Ent) (c' : dm.Ctx), e = .returned (.agg #[u0, u1, u2]) ∧ EntO w.heap.size w' u0 L' ∧ OwnC w.heap.size w' (.agg #[u1, u2]) c' ∧ L'.Perm (staysOf (deadF A dc) l ++ newOf c L) ∧ os.Up L' ∧
  dm.Is c' (fun e => dm.Knows c e ∨ dm.Knows dc e) (c.2.length + dc.2.length) ∧ Below w.heap.size w w'
set_option maxHeartbeats 12800000 in
set_option maxRecDepth 100000 in
theorem oapply_yes (l : List Ent) (c : dm.Ctx) (L : List Ent) (A : List Dot) (dc : dm.Ctx) (ve v1 v2 ue ua u1 u2 : Value) (w : World) (h : Ents w w.heap.size ve l) (hc : CtxAt w w.heap.size (.agg #[v1, v2]) c) (hu : Ents w w.heap.size ue L) (ha : Dots w w.heap.size ua A) (hdc : CtxAt w w.heap.size (.agg #[u1, u2]) dc)
  (hr : RSet l c) (hrd : RDel L A dc) (ht : ∀ d ∈ A, d ∈ L.map Ent.d ∨ dm.Knows c d) (hl : l.length ≤ 1000) (hL : L.length ≤ 1000) (hA : A.length ≤ 1000) (hcl : c.2.length ≤ 1000) (hdl : dc.2.length ≤ 1000) (hm : MX w) :
  Calls Tryz.prog 9 #[.agg #[ve, v1, v2], .agg #[ue, ua, u1, u2]] w (ApplyP l c L A dc w) := by
 obtain ⟨n0, hn0⟩ : ∃ n, n = l.length := ⟨_, rfl⟩
 obtain ⟨ao, cap, rfl⟩ : ∃ ao cap, ve = .slice ao n0 cap := by
  obtain ⟨ao, cap, e, _⟩ := h.form
  exact ⟨ao, cap, by rw [hn0]; exact e⟩
 obtain ⟨n, hn⟩ : ∃ n, n = L.length := ⟨_, rfl⟩
 obtain ⟨eo, ecap, rfl⟩ : ∃ ao cap, ue = .slice ao n cap := by
  obtain ⟨ao, cap, e, _⟩ := hu.form
  exact ⟨ao, cap, by rw [hn]; exact e⟩
 obtain ⟨m, hmA⟩ : ∃ n, n = A.length := ⟨_, rfl⟩
 obtain ⟨ado, dcap, rfl⟩ : ∃ ao cap, ua = .slice ao m cap := by
  obtain ⟨ao, cap, e, _⟩ := ha.form
  exact ⟨ao, cap, by rw [hmA]; exact e⟩
 have HN := Lib.hid hn
 have hn6 : n ≤ 1000 := by omega
 obtain ⟨s1, p1, c1, s2, p2, c2, e0, hp1, hp2⟩ := hc.form
 simp only [Value.agg.injEq, Array.mk.injEq, List.cons.injEq, and_true] at e0
 obtain ⟨rfl, rfl⟩ := e0
 obtain ⟨s3, p3, c3, s4, p4, c4, e0, hp3, hp4⟩ := hdc.form
 simp only [Value.agg.injEq, Array.mk.injEq, List.cons.injEq, and_true] at e0
 obtain ⟨rfl, rfl⟩ := e0
 clear hp1 hp2 hp3 hp4 hn0 hn hmA
 obtain ⟨WA, hWA⟩ : ∃ W, W = w.alloc (.cells #[.slice ao n0 cap, .slice s1 p1 c1, .slice s2 p2 c2] 27) := ⟨_, rfl⟩
 obtain ⟨WB, hWB⟩ : ∃ W, W = WA.alloc (.cells #[.slice eo n ecap, .slice ado m dcap, .slice s3 p3 c3, .slice s4 p4 c4] 29) := ⟨_, rfl⟩
 obtain ⟨W4, hW4⟩ : ∃ W, W = WB.alloc (.cells #[.slice none 0 0, .slice none 0 0, .slice none 0 0] 27) := ⟨_, rfl⟩
 have sA : WA.heap.size = w.heap.size + 1 := by rw [hWA]; simp
 have sB : WB.heap.size = w.heap.size + 2 := by rw [hWB]; simp [sA]
 have bA : Below w.heap.size w WA := by rw [hWA]; exact below1
 have bB : Below WA.heap.size WA WB := by rw [hWB]; exact below1
 have bC : Below WB.heap.size WB W4 := by rw [hW4]; exact below1
 have b2 : Below WA.heap.size WA W4 := bB.trans (bC.mono bB.size)
 have b4 : Below w.heap.size w W4 := bA.trans (b2.mono bA.size)
 have x0 : W4.heap[w.heap.size]? = some (.cells #[.slice ao n0 cap, .slice s1 p1 c1, .slice s2 p2 c2] 27) := (b2.block _ (by omega)).trans (by rw [hWA]; exact heap_alloc_new w _)
 have x1 : W4.heap[w.heap.size + 1]? = some (.cells #[.slice eo n ecap, .slice ado m dcap, .slice s3 p3 c3, .slice s4 p4 c4] 29) := (bC.block _ (by omega)).trans (by rw [hWB, ← sA]; exact heap_alloc_new WA _)
 have x2 : W4.heap[w.heap.size + 2]? = some (.cells #[.slice none 0 0, .slice none 0 0, .slice none 0 0] 27) := by rw [hW4, ← sB]; exact heap_alloc_new WB _
 subst hWA hWB
 have HW4 := Lib.hid hW4
 have X0 := Lib.hid x0
 have X1 := Lib.hid x1
 have X2 := Lib.hid x2
 have HB4 := Lib.hid b4
 have HE := Lib.hid (Cells.next h b4)
 have HC := Lib.hid (hc.next b4)
 have HU := Lib.hid (Cells.next hu b4)
 have HA := Lib.hid (Cells.next ha b4)
 have HD := Lib.hid (hdc.next b4)
 have HRS := Lib.hid hr
 have HRD := Lib.hid hrd
 have HT := Lib.hid ht
 have HMX := Lib.hid (MX.next hm b4)
 have HTW : Hid (∀ (x : Ent) (W : World), Calls Tryz.prog 28 #[.agg #[.string x.s, .int .i64 x.d.1, .int .i64 x.d.2, .int .i64 x.t, .slice none 0 0]] W fun e w' => e = .returned (.agg #[.string x.s, .int .i64 x.d.1, .int .i64 x.d.2, .int .i64 x.t, .slice none 0 0]) ∧ Below W.heap.size W w') := fun x W => twent_any x W
 clear h hc hu ha hdc hr hrd ht hm sA sB bA bB bC b2 b4 x0 x1 x2 hW4
 have HR := Lib.hid (oright_yes l c _ _ _ W4 HE.out HC.out HRS.out HMX.out)
 go_enter Tryz.func9, Tryz.ntmps9
 go_wp2_with fail
 rw [← HW4.out]
 (with_reducible refine HR.out.mono ?_)
 rintro e w5 ⟨rfl, hb5⟩
 have HB5 := Lib.hid hb5
 have HRDL := Lib.hid (rdelta_yes L A dc _ _ _ _ w5 (Cells.next HU.out hb5) (Cells.next HA.out hb5) (HD.out.next hb5) HRD.out (by omega) (MX.next HMX.out hb5))
 have y1 := (hb5.block _ (lt_of_block X1.out)).trans X1.out
 have e0 := boxc y1 0 _ rfl
 have e1 := boxc y1 1 _ rfl
 have e2 := boxc y1 2 _ rfl
 have e3 := boxc y1 3 _ rfl
 clear y1 hb5 HR
 go_wp2_with fail
 (with_reducible refine HRDL.out.mono ?_)
 rintro e w6 ⟨rfl, hb6⟩
 have HB6 := Lib.hid (HB5.out.trans (hb6.mono HB5.out.size))
 have HTL := Lib.hid (told_yes L A c (.slice ao n0 cap) _ _ _ _ (.slice s3 p3 c3) (.slice s4 p4 c4) w6 (HC.out.next HB6.out) (Cells.next HU.out HB6.out) (Cells.next HA.out HB6.out) (by omega) (by omega) (fun y hy => (HRD.out.set.fine y hy).ok) (fun d hd => knows_valid (HRD.out.kn d hd)) HT.out)
 have y1 := (HB6.out.block _ (lt_of_block X1.out)).trans X1.out
 have y0 := (HB6.out.block _ (lt_of_block X0.out)).trans X0.out
 have e0 := boxc y1 0 _ rfl
 have e1 := boxc y1 1 _ rfl
 have e2 := boxc y1 2 _ rfl
 have e3 := boxc y1 3 _ rfl
 have i0 := boxc y0 0 _ rfl
 have i1 := boxc y0 1 _ rfl
 have i2 := boxc y0 2 _ rfl
 clear y1 y0 hb6 HRDL
 go_wp2_with fail
 (with_reducible refine HTL.out.mono ?_)
 rintro e w7 ⟨rfl, hb7⟩
 have HB7 := Lib.hid (HB6.out.trans (hb7.mono HB6.out.size))
 have HPL := Lib.hid (places_any A _ w7 (Cells.next HA.out HB7.out) (by omega) (fun d hd => knows_valid (HRD.out.kn d hd)))
 have y1 := (HB7.out.block _ (lt_of_block X1.out)).trans X1.out
 have e1 := boxc y1 1 _ rfl
 clear y1 hb7 HTL e0 e2 e3 i0 i1 i2
 go_wp2_with fail
 (with_reducible refine HPL.out.mono ?_)
 rintro e w8 ⟨mb, rfl, ⟨D, hDD, hO, hmb⟩, hb8⟩
 have HB8 := Lib.hid (HB7.out.trans (hb8.mono HB7.out.size))
 obtain ⟨b5, hb5e⟩ : ∃ b, b = w8.heap.size := ⟨_, rfl⟩
 obtain ⟨w9, hw9⟩ : ∃ W, W = w8.alloc (.cells #[.map (some mb)] 67) := ⟨_, rfl⟩
 have hb9 : Below w8.heap.size w8 w9 := by rw [hw9]; exact below1
 have x5 : w9.heap[b5]? = some (.cells #[.map (some mb)] 67) := by rw [hw9, hb5e]; exact heap_alloc_new w8 _
 have HB9 := Lib.hid (HB8.out.trans (hb9.mono HB8.out.size))
 have y1 := (HB9.out.block _ (lt_of_block X1.out)).trans X1.out
 have HAK := Lib.hid (asks_dead A dc b5 (w.heap.size + 1) mb A.length D _ _ w9 (boxc x5 0 _ rfl) (boxc y1 2 _ rfl) (boxc y1 3 _ rfl) (HD.out.next HB9.out) hDD (own_map_keep hO hb9))
 have HPT := Lib.hid (part_any 27 #[.pointer (some ⟨b5, 0, none⟩), .pointer (some ⟨w.heap.size + 1, 0, none⟩)] (deadF A dc) l _ w9 (Cells.next HE.out HB9.out) (by omega) HAK.out (fun y hy => (HRS.out.fine y hy).ok))
 have y0 := (HB9.out.block _ (lt_of_block X0.out)).trans X0.out
 have i0 := boxc y0 0 _ rfl
 have HW9 := Lib.hid hw9
 have HB5E := Lib.hid hb5e
 rw [hw9] at i0
 clear y1 y0 x5 hb9 hw9 hb5e hDD hO hmb hb8 HPL e1
 go_wp2_with fail
 rw [← HW9.out, ← HB5E.out]
 clear i0
 (with_reducible refine HPT.out.mono ?_)
 rintro e wP ⟨a6, n6, c6, b8, m8, d8, rfl, hn6, hm8, hoE, _, hbP⟩
 unfold OwnE at hoE
 rw [← hn6] at hoE
 have hn6l : n6 ≤ 1000 := by rw [hn6]; exact Nat.le_trans (stays_len _ _) hl
 have HN6' := Lib.hid hn6
 have HOE := Lib.hid hoE
 have HBP := Lib.hid hbP
 have HB9P := Lib.hid (HB9.out.trans (hbP.mono HB9.out.size))
 have y1 := (HB9P.out.block _ (lt_of_block X1.out)).trans X1.out
 have e0 := boxc y1 0 _ rfl
 clear hoE hbP y1 hn6 hm8 HPT HAK
 go_wp2
 go_loopw [6, 38] (fun s i wr => ∃ (k : Nat) (a : Option Addr) (q cq : Nat), s = .slice a q cq ∧ i = .int .i64 k ∧ k ≤ n ∧ q ≤ 1000 + k ∧ Hid (q = (staysOf (deadF A dc) l ++ newOf c (L.take k)).length) ∧ Hid (wr.ownsRow w9.heap.size 53 5 (.slice a q cq) q (ecells (staysOf (deadF A dc) l ++ newOf c (L.take k)))) ∧ Hid (Below w9.heap.size w9 wr)) (fun _ i _ => n - (intOf i).toNat)
 case atStart => exact ⟨0, a6, n6, c6, rfl, rfl, by omega, by omega, by show _ = _; rw [HN6'.out]; simp [newOf], by show World.ownsRow _ _ _ _ _ _ _; have := HOE.out; simpa [newOf] using this, HBP.out⟩
 case round =>
  obtain ⟨k, a, q, cq, rfl, rfl, hk, hq, HQN, HO, HB⟩ := hrel
  clear e0
  have HBW := Lib.hid (HB9.out.trans (HB.out.mono HB9.out.size))
  have hz : w9.heap.size ≤ wr.heap.size := HB.out.size
  by_cases hlt : k < n
  ·
   have hkI : (k : Int) < (n : Int) := by omega
   obtain ⟨bb, off, rfl, hbB, q0, q1, q2, q3, q4⟩ := Ents.get (Cells.next HU.out HBW.out) HN.out hlt
   obtain ⟨x, hx⟩ : ∃ x, x = L.getD k default := ⟨_, rfl⟩
   rw [← hx] at q0 q1 q2 q3
   have HX : Hid (L.take (k + 1) = L.take k ++ [x]) := by
    show _ = _
    rw [hx]; exact take_one L k default (by rw [← HN.out]; exact hlt)
   obtain ⟨g0, hg0⟩ : ∃ q, q = wr.heap.size := ⟨_, rfl⟩
   obtain ⟨WE, hWE⟩ : ∃ W1, W1 = wr.alloc (.cells #[.string x.s, .int .i64 x.d.1, .int .i64 x.d.2, .int .i64 x.t, .slice none 0 0] 53) := ⟨_, rfl⟩
   have hb1 : Below wr.heap.size wr WE := by rw [hWE]; exact below1
   have y1 : WE.heap[g0]? = some (.cells #[.string x.s, .int .i64 x.d.1, .int .i64 x.d.2, .int .i64 x.t, .slice none 0 0] 53) := by rw [hWE, hg0]; exact heap_alloc_new wr _
   have hbE := HBW.out.trans (hb1.mono HBW.out.size)
   have y0 := (hbE.block _ (lt_of_block X0.out)).trans X0.out
   have i1 := boxc y0 1 _ rfl
   have i2 := boxc y0 2 _ rfl
   have HHS := Lib.hid (has_any c x.d _ WE (HC.out.next hbE))
   have Y1 := Lib.hid y1
   have HOW := Lib.hid (own_stay HO.out hb1)
   have HBE := Lib.hid (HB.out.trans (hb1.mono HB.out.size))
   have HWE := Lib.hid hWE
   have HG0 := Lib.hid hg0
   rw [hWE] at i1 i2
   clear hx hb1 y1 hbE y0 hWE hg0
   go_wp2_with fail
   rw [← HWE.out, ← HG0.out]
   clear i1 i2 q0 q1 q2 q3 q4
   (with_reducible refine HHS.out.mono ?_)
   rintro e wH ⟨rfl, hbH⟩
   have HOH := Lib.hid (own_stay HOW.out hbH)
   have HBH := Lib.hid (HBE.out.trans (hbH.mono HBE.out.size))
   have y1 := (hbH.block _ (lt_of_block Y1.out)).trans Y1.out
   have q0 := boxc y1 0 _ rfl
   have q1 := boxc y1 1 _ rfl
   have q2 := boxc y1 2 _ rfl
   have q3 := boxc y1 3 _ rfl
   have q4 := boxc y1 4 _ rfl
   clear y1 hbH HHS HOW HBE
   cases hk2 : dm.hasF c x.d
   ·
    have HNW : Hid (newOf c (L.take (k + 1)) = newOf c (L.take k) ++ [x]) := by show _ = _; rw [HX.out, newOf_snoc, hk2]; rfl
    clear hk2
    go_wp2_with fail
    (with_reducible refine (HTW.out x _).mono ?_)
    rintro e wT ⟨rfl, hbT⟩
    have HOT := Lib.hid (own_stay HOH.out hbT)
    have HBT := Lib.hid (HBH.out.trans (hbT.mono HBH.out.size))
    have hzT : w9.heap.size ≤ wT.heap.size := HBT.out.size
    clear hbT q0 q1 q2 q3 q4 HOH HBH
    go_wp2_with (at_builtin; refine app1g (.tmp 48) (.tmp 51) 22 rfl rfl w9.heap.size Tryz.underlying22 infoEnt rfl (by decide) (by decide) HOT.out rfl rfl rfl (by intro u hu; simp at hu; rcases hu with rfl | rfl | rfl | rfl | rfl <;> rfl) (by omega) hzT ?_)
    intro v' wU hown hgU
    have hbA : Below w9.heap.size w9 (wT.alloc (.cells #[.string x.s, .int .i64 x.d.1, .int .i64 x.d.2, .int .i64 x.t, .slice none 0 0] 53)) := HBT.out.alloc hzT _
    have hoA := World.ownsRow.alloc HOT.out (.cells #[.string x.s, .int .i64 x.d.1, .int .i64 x.d.2, .int .i64 x.t, .slice none 0 0] 53)
    have HBU := Lib.hid (hbA.trans (grown_below hoA hbA.size hgU))
    obtain ⟨aU, cU, rfl⟩ := own_slice hown
    have HOU : Hid (wU.ownsRow w9.heap.size 53 5 (.slice aU (q + 1) cU) (q + 1) (ecells (staysOf (deadF A dc) l ++ newOf c (L.take (k + 1))))) := by
     show World.ownsRow _ _ _ _ _ _ _
     rw [HNW.out, ← List.append_assoc, ecells_app]; exact hown
    have HQ2 : Hid (q + 1 = (staysOf (deadF A dc) l ++ newOf c (L.take (k + 1))).length) := by
     show _ = _
     rw [HNW.out, ← List.append_assoc, List.length_append, ← HQN.out]; rfl
    clear hown hgU hbA hoA HOT HBT
    go_wp2
    go_roundw
    case rel => exact ⟨k + 1, aU, q + 1, cU, rfl, by go_num, by omega, by omega, HQ2, HOU, HBU⟩
    case measure => simp [intOf]; omega
   ·
    have HNW : Hid (newOf c (L.take (k + 1)) = newOf c (L.take k)) := by show _ = _; rw [HX.out, newOf_snoc, hk2]; rfl
    have HOU : Hid (wH.ownsRow w9.heap.size 53 5 (.slice a q cq) q (ecells (staysOf (deadF A dc) l ++ newOf c (L.take (k + 1))))) := by
     show World.ownsRow _ _ _ _ _ _ _
     rw [HNW.out]; exact HOH.out
    have HQ2 : Hid (q = (staysOf (deadF A dc) l ++ newOf c (L.take (k + 1))).length) := by
     show _ = _
     rw [HNW.out, ← HQN.out]
    clear hk2
    go_wp2
    go_roundw
    case rel => exact ⟨k + 1, a, q, cq, rfl, by go_num, by omega, by omega, HQ2, HOU, HBH⟩
    case measure => simp [intOf]; omega
  ·
   obtain ⟨L1, hL1⟩ : ∃ X, X = staysOf (deadF A dc) l ++ newOf c L := ⟨_, rfl⟩
   have hTK : L.take k = L := List.take_of_length_le (by rw [← HN.out]; omega)
   have hoL : wr.ownsRow w9.heap.size 53 5 (.slice a q cq) q (ecells L1) := by
    have := HO.out
    rwa [hTK, ← hL1] at this
   have hqL : q = L1.length := by
    have := HQN.out
    rwa [hTK, ← hL1] at this
   have HSO := Lib.hid (byd_any _ q w9.heap.size L1 wr hoL hqL hz (by omega) (by rw [hL1]; exact nodup_app HRS.out HRD.out.set.up))
   have HOL := Lib.hid hoL
   have HL1 := Lib.hid hL1
   have HQL := Lib.hid hqL
   clear hTK hoL hqL hL1
   go_wp2_with fail
   (with_reducible refine HSO.out.mono ?_)
   rintro e wS ⟨rfl, L2, hp, hup, ho2, hgS⟩
   have HPM : Hid (L2.Perm (staysOf (deadF A dc) l ++ newOf c L)) := by
    show List.Perm _ _
    rw [← HL1.out]; exact hp
   have HUP := Lib.hid hup
   have HBS := Lib.hid (HB.out.trans (grown_below HOL.out hz hgS))
   have HBS4 := Lib.hid (HB9.out.trans (HBS.out.mono HB9.out.size))
   have hln : q = L2.length := by rw [HQL.out, ← hp.length_eq]
   have hE : EntO w9.heap.size wS (.slice a q cq) L2 := by
    unfold EntO
    rwa [← hln]
   have HE2 := Lib.hid hE
   have HJN := Lib.hid (join_own c dc _ _ wS (HC.out.next HBS4.out) (HD.out.next HBS4.out) HRS.out.right HRD.out.set.right (by omega) (by omega))
   have y0 := (HBS4.out.block _ (lt_of_block X0.out)).trans X0.out
   have y1 := (HBS4.out.block _ (lt_of_block X1.out)).trans X1.out
   have i1 := boxc y0 1 _ rfl
   have i2 := boxc y0 2 _ rfl
   have e2 := boxc y1 2 _ rfl
   have e3 := boxc y1 3 _ rfl
   clear hp hup ho2 hgS hln hE y0 y1 HSO HOL HL1 HQL HO HQN
   go_wp2_with fail
   (with_reducible refine HJN.out.mono ?_)
   rintro e wJ ⟨vJ, cJ, rfl, hcJ, hsJ, hbJ⟩
   obtain ⟨f1a, f1b, f1c, f1d, f1e, f1f, rfl⟩ := hcJ.form
   clear i1 i2 e2 e3
   have hB := HBS4.out.trans (hbJ.mono HBS4.out.size)
   obtain ⟨r2, hr2⟩ : ∃ r, r = w.heap.size + 1 + 1 := ⟨_, rfl⟩
   have y2 : wJ.heap[r2]? = some (.cells #[.slice none 0 0, .slice none 0 0, .slice none 0 0] 27 (0, 0)) := by rw [hr2]; exact (hB.block _ (lt_of_block X2.out)).trans X2.out
   have sb := sl_blk3 y2
   have hE9 : EntO w.heap.size wJ (.slice a q cq) L2 := (HE2.out.on hbJ).low (Nat.le_trans HB4.out.size HB9.out.size)
   obtain ⟨W3, hW3⟩ : ∃ W, W = ((wJ.setCell ⟨r2, 0, none⟩ (.slice a q cq)).setCell ⟨r2, 1, none⟩ (.slice f1a f1b f1c)).setCell ⟨r2, 2, none⟩ (.slice f1d f1e f1f) := ⟨_, rfl⟩
   have hs3 : W3.heap.size = wJ.heap.size := by rw [hW3]; simp
   have hk3 : Kt 27 wJ W3 := by rw [hW3]; exact set3_kt y2 _ _ _
   have hE3 := hE9.kt hk3 (by decide)
   have hC3 := (hcJ.kt hk3 (by decide)).low (Nat.le_trans HB4.out.size HBS4.out.size)
   have hv2 : W3.heap[r2]? = some (.cells #[.slice a q cq, .slice f1a f1b f1c, .slice f1d f1e f1f] 27 (0, 0)) := by
    rw [hW3]
    exact heap_setCell_same _ r2 2 _ _ _ (heap_setCell_same _ r2 1 _ _ _ (heap_setCell_same _ r2 0 _ _ _ y2))
   have hz2 : w.heap.size ≤ r2 := by omega
   have hb3 : Below w.heap.size w W3 := by
    rw [hW3]; exact (((HB4.out.trans (hB.mono HB4.out.size)).setCell hz2 _).setCell hz2 _).setCell hz2 _
   have HRET : Hid (ApplyP l c L A dc w (.returned (.agg #[.slice a q cq, .slice f1a f1b f1c, .slice f1d f1e f1f])) W3) :=
    ⟨_, _, _, L2, cJ, rfl, hE3, hC3, HPM.out, HUP.out, hsJ, hb3⟩
   have j0 := boxc y2 0 _ rfl
   have j1 := boxc y2 1 _ rfl
   have j2 := boxc y2 2 _ rfl
   have fj0 := boxf y2 0
   have fj1 := boxf y2 1
   have fj2 := boxf y2 2
   have HV2 := Lib.hid hv2
   have HW3 := Lib.hid hW3
   clear hB y2 sb hE9 hk3 hs3 hE3 hC3 hv2 hz2 hb3 hcJ hsJ hbJ hW3
   rw [← hr2]
   clear hr2
   go_wp2_with fail
   rw [← HW3.out]
   have s0 := boxc HV2.out 0 _ rfl
   have s1' := boxc HV2.out 1 _ rfl
   have s2' := boxc HV2.out 2 _ rfl
   exact bodyPost_ret (v := .agg #[.slice a q cq, .slice f1a f1b f1c, .slice f1d f1e f1f]) (by simp [results, Tryz.results9, go_sem, s0, s1', s2']) rfl HRET.out
end Go.Proofs.YthpdmfkpiekonaaGreat
namespace Go.Proofs.YthpdmfkpiekonaaGreat
open Go Go.RowKit Go.ChangeShapes cl
theorem up_ext {a b : List Ent} (ha : os.Up a) (hb : os.Up b) (h : ∀ x, x ∈ a ↔ x ∈ b) : a = b := by
 induction a generalizing b with
 | nil =>
  cases b with
  | nil => rfl
  | cons y r => exact absurd ((h y).2 List.mem_cons_self) (by simp)
 | cons x l ih =>
  cases b with
  | nil => exact absurd ((h x).1 List.mem_cons_self) (by simp)
  | cons y r =>
   have ha' := List.pairwise_cons.1 ha
   have hb' := List.pairwise_cons.1 hb
   have hxy : x = y := by
    rcases List.mem_cons.1 ((h x).1 List.mem_cons_self) with e | e
    ·
     exact e
    ·
     rcases List.mem_cons.1 ((h y).2 List.mem_cons_self) with e2 | e2
     ·
      exact e2.symm
     ·
      exact (dm.dless_irrefl _ (dm.dless_trans (ha'.1 y e2) (hb'.1 x e))).elim
   subst hxy
   refine congrArg _ (ih ha'.2 hb'.2 fun z => ?_)
   constructor
   ·
    intro hz
    rcases List.mem_cons.1 ((h z).1 (List.mem_cons_of_mem _ hz)) with e | e
    ·
     have := ha'.1 z hz
     rw [e] at this
     exact (dm.dless_irrefl _ this).elim
    ·
     exact e
   ·
    intro hz
    rcases List.mem_cons.1 ((h z).2 (List.mem_cons_of_mem _ hz)) with e | e
    ·
     have := hb'.1 z hz
     rw [e] at this
     exact (dm.dless_irrefl _ this).elim
    ·
     exact e
theorem up_dot {l : List Ent} (h : os.Up l) {x y : Ent} (hx : x ∈ l) (hy : y ∈ l) (e : x.d = y.d) : x = y := by
 induction l with
 | nil => cases hx
 | cons z r ih =>
  have h' := List.pairwise_cons.1 h
  rcases List.mem_cons.1 hx with hx2 | hx2
  ·
   rcases List.mem_cons.1 hy with hy2 | hy2
   ·
    rw [hx2, hy2]
   ·
    have := h'.1 y hy2
    rw [← hx2, e] at this
    exact (dm.dless_irrefl _ this).elim
  ·
   rcases List.mem_cons.1 hy with hy2 | hy2
   ·
    have := h'.1 x hx2
    rw [← hy2, e] at this
    exact (dm.dless_irrefl _ this).elim
   ·
    exact ih h'.2 hx2 hy2
theorem mem_stays {p : Ent → Bool} {l : List Ent} {x : Ent} : x ∈ staysOf p l ↔ x ∈ l ∧ p x = false := by
 unfold staysOf
 rw [List.mem_filter]
 cases p x <;> simp
theorem mem_gone {p : Ent → Bool} {l : List Ent} {d : Dot} : d ∈ goneOf p l ↔ ∃ x ∈ l, p x = true ∧ x.d = d := by
 unfold goneOf
 rw [List.mem_map]
 exact ⟨fun ⟨x, h, e⟩ => ⟨x, (List.mem_filter.1 h).1, (List.mem_filter.1 h).2, e⟩, fun ⟨x, h, hp, e⟩ => ⟨x, List.mem_filter.2 ⟨h, hp⟩, e⟩⟩
theorem mem_new {c : dm.Ctx} {l : List Ent} {x : Ent} : x ∈ newOf c l ↔ x ∈ l ∧ ¬ dm.Knows c x.d := by
 unfold newOf
 rw [List.mem_filter, ← dm.hasF_iff]
 cases dm.hasF c x.d <;> simp
theorem dead_iff {A : List Dot} {c : dm.Ctx} {x : Ent} : deadF A c x = false ↔ x.d ∈ A ∨ ¬ dm.Knows c x.d := by
 unfold deadF
 rw [← dm.hasF_iff]
 by_cases h : x.d ∈ A <;> cases dm.hasF c x.d <;> simp [h]
theorem gone_same {l : List Ent} {c dc : dm.Ctx} {p : Ent → Bool} {d : Dot} {A : List Dot} {m : Nat} (hr : RSet l c) (hn : ¬ dm.Knows c d) (hA : ∀ e ∈ A, e = d) (hd : dm.Is dc (fun e => valid e = true ∧ e ∈ goneOf p l ++ [d]) m) {x : Ent} (hx : x ∈ l) : deadF A dc x = p x := by
 have hxk := hr.kn x hx
 have hxd : x.d ≠ d := fun e => hn (by rw [← e]; exact hxk)
 have hxa : x.d ∉ A := fun h => hxd (hA _ h)
 have hk : dm.Knows dc x.d ↔ p x = true := by
  rw [hd.know]
  simp only [List.mem_append, List.mem_singleton, hxd, or_false]
  constructor
  ·
   rintro ⟨_, h⟩
   obtain ⟨y, hy, hp, e⟩ := mem_gone.1 h
   rw [← up_dot hr.up hy hx e]; exact hp
  ·
   exact fun h => ⟨knows_valid hxk, mem_gone.2 ⟨x, hx, h, rfl⟩⟩
 cases e : p x
 ·
  exact dead_iff.2 (Or.inr fun h => by rw [hk, e] at h; cases h)
 ·
  cases e2 : deadF A dc x
  ·
   rcases dead_iff.1 e2 with h | h
   ·
    exact absurd h hxa
   ·
    exact absurd (hk.2 e) h
  ·
   rfl
theorem home_add {l L1 L2 : List Ent} {c dc : dm.Ctx} {x : Ent} {p : Ent → Bool} {m : Nat} (hr : RSet l c) (hn : ¬ dm.Knows c x.d) (h1 : L1.Perm (staysOf p l ++ [x])) (u1 : os.Up L1) (hd : dm.Is dc (fun e => valid e = true ∧ e ∈ goneOf p l ++ [x.d]) m)
  (h2 : L2.Perm (staysOf (deadF [x.d] dc) l ++ newOf c [x])) (u2 : os.Up L2) : L1 = L2 := by
 refine up_ext u1 u2 fun y => ?_
 rw [h1.mem_iff, h2.mem_iff, List.mem_append, List.mem_append, mem_stays, mem_stays, mem_new]
 have hs : y ∈ l → deadF [x.d] dc y = p y := fun hy => gone_same hr hn (fun e he => List.mem_singleton.1 he) hd hy
 constructor
 ·
  rintro (⟨hy, hp⟩ | hy)
  ·
   exact Or.inl ⟨hy, by rw [hs hy]; exact hp⟩
  ·
   rw [List.mem_singleton] at hy
   subst hy
   exact Or.inr ⟨List.mem_singleton.2 rfl, hn⟩
 ·
  rintro (⟨hy, hp⟩ | ⟨hy, _⟩)
  ·
   exact Or.inl ⟨hy, by rw [← hs hy]; exact hp⟩
  ·
   exact Or.inr hy
theorem home_drop {l L2 : List Ent} {c dc : dm.Ctx} {d : Dot} {p : Ent → Bool} {m : Nat} (hr : RSet l c) (hn : ¬ dm.Knows c d) (hd : dm.Is dc (fun e => valid e = true ∧ e ∈ goneOf p l ++ [d]) m)
  (h2 : L2.Perm (staysOf (deadF [] dc) l ++ newOf c [])) (u2 : os.Up L2) : staysOf p l = L2 := by
 refine up_ext (hr.up.sublist List.filter_sublist) u2 fun y => ?_
 rw [h2.mem_iff, List.mem_append, mem_stays, mem_stays, mem_new]
 have hs : y ∈ l → deadF [] dc y = p y := fun hy => gone_same hr hn (fun e he => by cases he) hd hy
 constructor
 ·
  exact fun ⟨hy, hp⟩ => Or.inl ⟨hy, by rw [hs hy]; exact hp⟩
 ·
  rintro (⟨hy, hp⟩ | ⟨hy, _⟩)
  ·
   exact ⟨hy, by rw [← hs hy]; exact hp⟩
  ·
   cases hy
theorem home_ctx {l : List Ent} {c c1 c2 dc : dm.Ctx} {d : Dot} {p : Ent → Bool} {m k1 k2 : Nat} (hr : RSet l c) (hv : valid d = true) (hd : dm.Is dc (fun e => valid e = true ∧ e ∈ goneOf p l ++ [d]) m) (h1 : dm.Is c1 (fun e => dm.Knows c e ∨ e = d) k1) (h2 : dm.Is c2 (fun e => dm.Knows c e ∨ dm.Knows dc e) k2) : c1 = c2 := by
 refine h1.eq h2 fun e => ?_
 constructor
 ·
  rintro (h | rfl)
  ·
   exact Or.inl h
  ·
   exact Or.inr ((hd.know _).2 ⟨hv, by simp⟩)
 ·
  rintro (h | h)
  ·
   exact Or.inl h
  ·
   obtain ⟨_, h⟩ := (hd.know e).1 h
   rcases List.mem_append.1 h with h | h
   ·
    obtain ⟨y, hy, _, rfl⟩ := mem_gone.1 h
    exact Or.inl (hr.kn y hy)
   ·
    exact Or.inr (List.mem_singleton.1 h)
end Go.Proofs.YthpdmfkpiekonaaGreat
namespace Go.Proofs.YthpdmfkpiekonaaGreat
open Go Go.RowKit Go.ChangeShapes cl
theorem rset_apply {l L L2 : List Ent} {A : List Dot} {c c' dc : dm.Ctx} {m : Nat} (hr : RSet l c) (hd : RDel L A dc) (h2 : L2.Perm (staysOf (deadF A dc) l ++ newOf c L)) (u2 : os.Up L2) (hc : dm.Is c' (fun e => dm.Knows c e ∨ dm.Knows dc e) m) : RSet L2 c' := by
 have hm : ∀ y ∈ L2, y ∈ l ∨ y ∈ L := fun y hy => by
  rcases List.mem_append.1 (h2.mem_iff.1 hy) with h | h
  ·
   exact Or.inl (mem_stays.1 h).1
  ·
   exact Or.inr (mem_new.1 h).1
 refine ⟨hc.right, u2, fun y hy => ?_, fun y hy => ?_⟩
 ·
  rcases hm y hy with h | h
  ·
   exact hr.fine y h
  ·
   exact hd.set.fine y h
 ·
  rcases hm y hy with h | h
  ·
   exact (hc.know _).2 (Or.inl (hr.kn y h))
  ·
   exact (hc.know _).2 (Or.inr (hd.set.kn y h))
theorem rdel_add {dc : dm.Ctx} {x : Ent} {G : List Dot} {m : Nat} (hx : os.Fine x) (hd : dm.Is dc (fun e => valid e = true ∧ e ∈ G ++ [x.d]) m) : RDel [x] [x.d] dc := by
 have hk : dm.Knows dc x.d := (hd.know _).2 ⟨hx.ok, by simp⟩
 exact ⟨⟨hd.right, List.pairwise_singleton _ _, fun y hy => by rw [List.mem_singleton.1 hy]; exact hx, fun y hy => by rw [List.mem_singleton.1 hy]; exact hk⟩, List.pairwise_singleton _ _, fun e he => by rw [List.mem_singleton.1 he]; exact hk, fun y hy => by rw [List.mem_singleton.1 hy]; simp⟩
theorem rdel_drop {dc : dm.Ctx} {S : Dot → Prop} {m : Nat} (hd : dm.Is dc S m) : RDel [] [] dc :=
 ⟨⟨hd.right, List.Pairwise.nil, (fun y hy => by cases hy), (fun y hy => by cases hy)⟩, List.Pairwise.nil, (fun e he => by cases he), (fun y hy => by cases hy)⟩
theorem told_add (x : Ent) (c : dm.Ctx) : ∀ d ∈ [x.d], d ∈ [x].map Ent.d ∨ dm.Knows c d := fun d hd => Or.inl (by simpa using hd)
theorem nodup_len {a b : List Dot} (hn : a.Nodup) (hs : ∀ x ∈ a, x ∈ b) : a.length ≤ b.length := by
 induction a generalizing b with
 | nil => simp
 | cons x r ih =>
  have hc := List.nodup_cons.1 hn
  have hx : x ∈ b := hs x List.mem_cons_self
  have h1 := ih (b := b.erase x) hc.2 (fun y hy => (List.mem_erase_of_ne (fun e => hc.1 (by rw [← e]; exact hy))).2 (hs y (List.mem_cons_of_mem _ hy)))
  rw [List.length_erase_of_mem hx] at h1
  have h2 := List.length_pos_of_mem hx
  rw [List.length_cons]; omega
theorem cloud_len {c : dm.Ctx} {U : List Dot} (hr : dm.Right c) (hu : ∀ d, dm.Knows c d → d ∈ U) : c.2.length ≤ U.length := by
 have hn : c.2.Nodup := by
  refine hr.cup.imp fun {a b} h e => ?_
  rw [e] at h
  exact dm.dless_irrefl _ h
 have hs : ∀ d ∈ c.2, d ∈ U := fun d hd => hu d (by
  refine dm.hasF_iff.1 ?_
  unfold dm.hasF
  rw [(hr.cok d hd).1]
  simp [hd])
 exact nodup_len hn hs
end Go.Proofs.YthpdmfkpiekonaaGreat
namespace Go.Proofs.YthpdmfkpiekonaaGreat
open Go Go.RowKit Go.ChangeShapes cl
structure Chg where
 L : List Ent
 A : List Dot
 c : dm.Ctx
instance : Inhabited Chg := ⟨⟨[], [], ([], [])⟩⟩
structure Chgs (C : List Chg) : Prop where
 right : ∀ k, k < C.length → RDel (C.getD k default).L (C.getD k default).A (C.getD k default).c
 one : ∀ k, k < C.length → ((C.getD k default).L = [] ∧ (C.getD k default).A = []) ∨ ∃ x, (C.getD k default).L = [x] ∧ (C.getD k default).A = [x.d]
 apart : ∀ j k, j < C.length → k < C.length → j ≠ k → ∀ x ∈ (C.getD j default).L, ∀ y ∈ (C.getD k default).L, x.d ≠ y.d
structure Means (C : List Chg) (H : Nat → Prop) (l : List Ent) (c : dm.Ctx) : Prop where
 kn : ∀ d, dm.Knows c d ↔ ∃ k, k < C.length ∧ H k ∧ dm.Knows (C.getD k default).c d
 mem : ∀ x, x ∈ l ↔ ∃ k, k < C.length ∧ H k ∧ x ∈ (C.getD k default).L ∧ ∀ j, j < C.length → H j → j ≠ k → ¬ dm.Knows (C.getD j default).c x.d
theorem Chgs.dot {C : List Chg} (h : Chgs C) {k : Nat} (hk : k < C.length) {x : Ent} (hx : x ∈ (C.getD k default).L) : x.d ∈ (C.getD k default).A ∧ dm.Knows (C.getD k default).c x.d := ⟨(h.right k hk).mem x hx, (h.right k hk).set.kn x hx⟩
theorem Chgs.alive {C : List Chg} (h : Chgs C) {k : Nat} (hk : k < C.length) {d : Dot} (hd : d ∈ (C.getD k default).A) : ∃ x ∈ (C.getD k default).L, x.d = d := by
 rcases h.one k hk with ⟨_, e⟩ | ⟨x, e1, e2⟩
 ·
  rw [e] at hd; cases hd
 ·
  rw [e2, List.mem_singleton] at hd
  exact ⟨x, by rw [e1]; simp, hd.symm⟩
theorem means_apply {C : List Chg} {H : Nat → Prop} {l l2 : List Ent} {c c2 : dm.Ctx} {k m : Nat} (hC : Chgs C) (h : Means C H l c) (hk : k < C.length)
  (h2 : l2.Perm (staysOf (deadF (C.getD k default).A (C.getD k default).c) l ++ newOf c (C.getD k default).L)) (hc : dm.Is c2 (fun e => dm.Knows c e ∨ dm.Knows (C.getD k default).c e) m) : Means C (fun j => H j ∨ j = k) l2 c2 := by
 refine ⟨fun d => ?_, fun x => ?_⟩
 ·
  rw [hc.know, h.kn]
  constructor
  ·
   rintro (⟨j, hj, hH, hd⟩ | hd)
   ·
    exact ⟨j, hj, Or.inl hH, hd⟩
   ·
    exact ⟨k, hk, Or.inr rfl, hd⟩
  ·
   rintro ⟨j, hj, hH | rfl, hd⟩
   ·
    exact Or.inl ⟨j, hj, hH, hd⟩
   ·
    exact Or.inr hd
 ·
  rw [h2.mem_iff, List.mem_append, mem_stays, mem_new, dead_iff]
  constructor
  ·
   rintro (⟨hx, hd⟩ | ⟨hx, hn⟩)
   ·
    obtain ⟨j, hj, hH, hxj, hno⟩ := (h.mem x).1 hx
    refine ⟨j, hj, Or.inl hH, hxj, fun i hi hHi hne => ?_⟩
    rcases hHi with hHi | rfl
    ·
     exact hno i hi hHi hne
    ·
     rcases hd with hd | hd
     ·
      obtain ⟨y, hy, e⟩ := hC.alive hk hd
      exact absurd e (hC.apart i j hk hj hne y hy x hxj)
     ·
      exact hd
   ·
    refine ⟨k, hk, Or.inr rfl, hx, fun i hi hHi hne => ?_⟩
    rcases hHi with hHi | e
    ·
     exact fun hkn => hn ((h.kn _).2 ⟨i, hi, hHi, hkn⟩)
    ·
     exact absurd e hne
  ·
   rintro ⟨j, hj, hH, hxj, hno⟩
   have hxd := hC.dot hj hxj
   by_cases hHj : H j
   ·
    refine Or.inl ⟨(h.mem x).2 ⟨j, hj, hHj, hxj, fun i hi hHi hne => hno i hi (Or.inl hHi) hne⟩, ?_⟩
    by_cases e : j = k
    ·
     subst e; exact Or.inl hxd.1
    ·
     exact Or.inr (hno k hk (Or.inr rfl) (fun e2 => e e2.symm))
   ·
    have e : j = k := hH.resolve_left hHj
    subst e
    refine Or.inr ⟨hxj, fun hkn => ?_⟩
    obtain ⟨i, hi, hHi, hd⟩ := (h.kn _).1 hkn
    exact hno i hi (Or.inl hHi) (fun e => hHj (by rw [← e]; exact hHi)) hd
theorem means_nil (C : List Chg) (H : Nat → Prop) (h : ∀ k, k < C.length → ¬ H k) : Means C H [] ([], []) :=
 ⟨fun d => ⟨fun hd => by
   exfalso
   have h1 : dm.kn [] d.1 = 0 := rfl
   have h2 := (dm.valid_iff d).1 hd.1
   have h3 := hd.2
   simp only [h1, List.not_mem_nil, or_false] at h3
   omega, fun ⟨k, hk, hH, _⟩ => absurd hH (h k hk)⟩, fun x => ⟨(fun hx => by cases hx), fun ⟨k, hk, hH, _⟩ => absurd hH (h k hk)⟩⟩
theorem means_more {C : List Chg} {H : Nat → Prop} {l : List Ent} {c : dm.Ctx} (h : Means C H l c) (x : Chg) (hn : ¬ H C.length) : Means (C ++ [x]) H l c := by
 have hg : ∀ k, k < C.length → (C ++ [x]).getD k default = C.getD k default := fun k hk => by
  rw [List.getD_eq_getElem?_getD, List.getD_eq_getElem?_getD, List.getElem?_append_left hk]
 have hl : ∀ k, k < (C ++ [x]).length ∧ H k ↔ k < C.length ∧ H k := fun k => by
  rw [List.length_append, List.length_singleton]
  constructor
  ·
   rintro ⟨h1, h2⟩
   rcases Nat.lt_succ_iff_lt_or_eq.1 h1 with h3 | rfl
   ·
    exact ⟨h3, h2⟩
   ·
    exact absurd h2 hn
  ·
   exact fun ⟨h1, h2⟩ => ⟨by omega, h2⟩
 refine ⟨fun d => (h.kn d).trans ?_, fun y => (h.mem y).trans ?_⟩
 ·
  constructor
  ·
   rintro ⟨k, hk, hH, hd⟩
   exact ⟨k, ((hl k).2 ⟨hk, hH⟩).1, hH, by rw [hg k hk]; exact hd⟩
  ·
   rintro ⟨k, hk, hH, hd⟩
   have hk' := ((hl k).1 ⟨hk, hH⟩).1
   exact ⟨k, hk', hH, by rw [← hg k hk']; exact hd⟩
 ·
  constructor
  ·
   rintro ⟨k, hk, hH, hy, hno⟩
   refine ⟨k, ((hl k).2 ⟨hk, hH⟩).1, hH, by rw [hg k hk]; exact hy, fun j hj hHj hne => ?_⟩
   have hj' := ((hl j).1 ⟨hj, hHj⟩).1
   rw [hg j hj']; exact hno j hj' hHj hne
  ·
   rintro ⟨k, hk, hH, hy, hno⟩
   have hk' := ((hl k).1 ⟨hk, hH⟩).1
   refine ⟨k, hk', hH, by rw [← hg k hk']; exact hy, fun j hj hHj hne => ?_⟩
   rw [← hg j hj]; exact hno j ((hl j).2 ⟨hj, hHj⟩).1 hHj hne
end Go.Proofs.YthpdmfkpiekonaaGreat
