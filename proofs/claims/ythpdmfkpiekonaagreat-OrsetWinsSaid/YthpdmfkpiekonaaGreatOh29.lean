/- texts put together: OrsAw0. -/
import Derived.Test.YthpdmfkpiekonaaGreatOh28
namespace Go.Proofs.YthpdmfkpiekonaaGreat
open Go Go.RowKit Go.ChangeShapes cl
def awX : Ent := ⟨nam 0, (1, 1), 5⟩
def awS (e : Dot) : Prop := e = ((1 : Int), (1 : Int)) ∨ e = ((1 : Int), (2 : Int))
theorem awX_fine : os.Fine awX := nam_fine rfl (by decide) (by decide)
theorem isC {c : dm.Ctx} {S T : Dot → Prop} {m : Nat} (h : dm.Is c S m) (e : ∀ d, S d ↔ T d) : dm.Is c T m := ⟨h.right, fun d => (h.know d).trans (e d), h.len1, h.len2⟩
theorem kn_nil (d : Dot) : ¬ dm.Knows ([], []) d := fun hd => by
 have h1 : dm.kn [] d.1 = 0 := rfl
 have h2 := (dm.valid_iff d).1 hd.1
 have h3 := hd.2
 simp only [h1, List.not_mem_nil, or_false] at h3
 omega
theorem set_nil : RSet [] ([], []) := ⟨right_nil, List.Pairwise.nil, (fun x hx => by cases hx), (fun x hx => by cases hx)⟩
theorem ctx_nil (w : World) : CtxAt w w.heap.size (.agg #[.slice none 0 0, .slice none 0 0]) ([], []) := ⟨_, _, rfl, Cells.nil _ _ _, Cells.nil _ _ _⟩
theorem SetV.mk {B : Nat} {l : List Ent} {c : dm.Ctx} {S : Dot → Prop} {m : Nat} {u0 u1 u2 : Value} {w : World} (h1 : EntO B w u0 l) (h2 : OwnC B w (.agg #[u1, u2]) c) (h3 : dm.Is c S m) : SetV 0 l S (.agg #[u0, u1, u2]) w := by
 obtain ⟨a0, x0, rfl⟩ := own_slice h1
 obtain ⟨a1, n1, c1, a2, n2, c2, e1⟩ := h2.form
 simp only [Value.agg.injEq, Array.mk.injEq, List.cons.injEq, and_true] at e1
 obtain ⟨rfl, rfl⟩ := e1
 exact ⟨_, _, _, _, _, _, _, _, _, c, rfl, h1.low (Nat.zero_le _), h2.low (Nat.zero_le _), m, h3⟩
theorem ChgV.mk {B : Nat} {L : List Ent} {A : List Dot} {c : dm.Ctx} {S : Dot → Prop} {m : Nat} {t0 t1 t2 t3 : Value} {w : World} (h1 : EntO B w t0 L) (h4 : DotO B w t1 A) (h2 : OwnC B w (.agg #[t2, t3]) c) (h3 : dm.Is c S m) : ChgV 0 L A S (.agg #[t0, t1, t2, t3]) w := by
 obtain ⟨a0, x0, rfl⟩ := own_slice h1
 obtain ⟨a4, x4, rfl⟩ := own_slice h4
 obtain ⟨a1, n1, c1, a2, n2, c2, e1⟩ := h2.form
 simp only [Value.agg.injEq, Array.mk.injEq, List.cons.injEq, and_true] at e1
 obtain ⟨rfl, rfl⟩ := e1
 exact ⟨_, _, _, _, _, _, _, _, _, _, _, _, c, rfl, h1.low (Nat.zero_le _), h4.low (Nat.zero_le _), h2.low (Nat.zero_le _), m, h3⟩
theorem perm_one {l : List Ent} {x : Ent} (h : l.Perm [x]) : l = [x] := List.perm_singleton.1 h
theorem perm_nil {l : List Ent} (h : l.Perm []) : l = [] := List.perm_nil.1 h
theorem aw_add (w : World) (hm : MX w) : Calls Tryz.prog 20 #[.agg #[.slice none 0 0, .slice none 0 0, .slice none 0 0], eval' awX] w fun e w' => ∃ v0 v1, e = .returned (.tuple #[v0, v1, .int .i64 0]) ∧ SetV 0 [awX] (fun e => e = awX.d) v0 w' ∧ ChgV 0 [awX] [awX.d] (fun e => e = awX.d) v1 w' ∧ Below w.heap.size w w' := by
 refine (oadd_yes [] ([], []) awX _ _ _ w (Cells.nil _ _ _) (ctx_nil w) set_nil awX_fine (kn_nil _) (by simp) (by simp) hm).mono ?_
 rintro e w' ⟨u0, u1, u2, t0, t1, t2, t3, L', c', dc, rfl, g1, g2, g3, g4, g5, g6, g7, g8, ⟨m, g9⟩, g10⟩
 obtain rfl := perm_one (show L'.Perm [awX] from g6)
 exact ⟨_, _, rfl, SetV.mk g1 g2 (isC g8 fun d => ⟨fun h => h.resolve_left (kn_nil d), Or.inr⟩), ChgV.mk g3 g4 g5 (isC g9 fun d => ⟨fun h => by simpa [goneOf] using h.2, fun h => ⟨by rw [h]; rfl, by simp [h]⟩⟩), g10⟩
theorem aw_rem1 (w : World) (hm : MX w) : Calls Tryz.prog 21 #[.agg #[.slice none 0 0, .slice none 0 0, .slice none 0 0], .string (nam 0), .agg #[.int .i64 2, .int .i64 1]] w fun e w' => e = .returned (.tuple #[.agg #[.slice none 0 0, .slice none 0 0, .slice none 0 0], .agg #[.slice none 0 0, .slice none 0 0, .slice none 0 0, .slice none 0 0]]) ∧ Below w.heap.size w w' :=
 (orem_any [] ([], []) (2, 1) (nam 0) _ _ _ w (Cells.nil _ _ _) (ctx_nil w) set_nil rfl (kn_nil _) (by simp) (by simp) hm).mono fun _ _ h => dropN_eq h rfl
theorem aw_ap1 (w : World) (hm : MX w) : Calls Tryz.prog 9 #[.agg #[.slice none 0 0, .slice none 0 0, .slice none 0 0], .agg #[.slice none 0 0, .slice none 0 0, .slice none 0 0, .slice none 0 0]] w fun e w' => ∃ v, e = .returned v ∧ SetV 0 [] (fun _ => False) v w' ∧ Below w.heap.size w w' := by
 have hd : RDel [] [] ([], []) := ⟨set_nil, List.Pairwise.nil, (fun d hd => by cases hd), (fun x hx => by cases hx)⟩
 refine (oapply_yes [] ([], []) [] [] ([], []) _ _ _ _ _ _ _ w (Cells.nil _ _ _) (ctx_nil w) (Cells.nil _ _ _) (Cells.nil _ _ _) (ctx_nil w) set_nil hd (fun d hd => by cases hd) (by simp) (by simp) (by simp) (by simp) (by simp) hm).mono ?_
 rintro e w' ⟨u0, u1, u2, L', c', rfl, g1, g2, g3, g4, g5, g6⟩
 obtain rfl := perm_nil (show L'.Perm [] from g3)
 exact ⟨_, rfl, SetV.mk g1 g2 (isC g5 fun d => ⟨fun h => h.elim (kn_nil d) (kn_nil d), False.elim⟩), g6⟩
theorem aw_ap (l L : List Ent) (A : List Dot) (S D T : Dot → Prop) (l2 : List Ent) (v d : Value) (w : World) (hv : SetV 0 l S v w) (hd : ChgV 0 L A D d w) (hm : MX w)
  (hl : ∀ c, dm.Right c → (∀ e, dm.Knows c e ↔ S e) → RSet l c) (hR : ∀ c, dm.Right c → (∀ e, dm.Knows c e ↔ D e) → RDel L A c) (hn : l.length ≤ 10 ∧ L.length ≤ 10 ∧ A.length ≤ 10) (hA : ∀ d ∈ A, d ∈ L.map Ent.d)
  (h2 : ∀ c dc, (∀ e, dm.Knows c e ↔ S e) → (∀ e, dm.Knows dc e ↔ D e) → ∀ L', L'.Perm (staysOf (deadF A dc) l ++ newOf c L) → L' = l2) (hS : ∀ e, S e ∨ D e ↔ T e) (hc : ∀ c, dm.Right c → (∀ e, dm.Knows c e ↔ S e) → c.2.length ≤ 10) (hdc : ∀ c, dm.Right c → (∀ e, dm.Knows c e ↔ D e) → c.2.length ≤ 10) :
  Calls Tryz.prog 9 #[v, d] w fun e w' => ∃ v', e = .returned v' ∧ SetV 0 l2 T v' w' ∧ Below w.heap.size w w' := by
 obtain ⟨a0, n0, c0, a1, n1, c1, a2, n2, c2, cc, rfl, h1, h3, m, h4⟩ := hv
 obtain ⟨a3, n3, c3, a4, n4, c4, a5, n5, c5, a6, n6, c6, dc, rfl, g1, g2, g3, m', g4⟩ := hd
 have q1 := hc cc h4.right h4.know
 have q2 := hdc dc g4.right g4.know
 refine (oapply_yes l cc L A dc _ _ _ _ _ _ _ w h1.at h3.at g1.at g2.at g3.at (hl cc h4.right h4.know) (hR dc g4.right g4.know) (fun d hd => Or.inl (hA d hd)) (by omega) (by omega) (by omega) (by omega) (by omega) hm).mono ?_
 rintro e w' ⟨u0, u1, u2, L', c', rfl, k1, k2, k3, k4, k5, k6⟩
 obtain rfl := h2 cc dc h4.know g4.know L' k3
 exact ⟨_, rfl, SetV.mk k1 k2 (isC k5 fun e => by rw [h4.know, g4.know]; exact hS e), k6⟩
theorem cl_one {c : dm.Ctx} {S : Dot → Prop} (hr : dm.Right c) (hk : ∀ e, dm.Knows c e ↔ S e) (hS : ∀ e, S e → e ∈ [((1 : Int), (1 : Int)), (1, 2)]) : c.2.length ≤ 10 := Nat.le_trans (cloud_len hr (fun d hd => hS d ((hk d).1 hd))) (by decide)
theorem rset0 {c : dm.Ctx} (hr : dm.Right c) : RSet [] c := ⟨hr, List.Pairwise.nil, (fun x hx => by cases hx), (fun x hx => by cases hx)⟩
theorem rsetX {c : dm.Ctx} (hr : dm.Right c) (hk : dm.Knows c awX.d) : RSet [awX] c := ⟨hr, List.pairwise_singleton _ _, fun x hx => by rw [List.mem_singleton.1 hx]; exact awX_fine, fun x hx => by rw [List.mem_singleton.1 hx]; exact hk⟩
theorem rdel0 {c : dm.Ctx} (hr : dm.Right c) : RDel [] [] c := ⟨rset0 hr, List.Pairwise.nil, (fun d hd => by cases hd), (fun x hx => by cases hx)⟩
theorem rdelX {c : dm.Ctx} (hr : dm.Right c) (hk : dm.Knows c awX.d) : RDel [awX] [awX.d] c := ⟨rsetX hr hk, List.pairwise_singleton _ _, fun d hd => by rw [List.mem_singleton.1 hd]; exact hk, fun x hx => by rw [List.mem_singleton.1 hx]; simp⟩
theorem aw_ap2 (v d : Value) (w : World) (hv : SetV 0 [] (fun _ => False) v w) (hd : ChgV 0 [awX] [awX.d] (fun e => e = awX.d) d w) (hm : MX w) : Calls Tryz.prog 9 #[v, d] w fun e w' => ∃ v', e = .returned v' ∧ SetV 0 [awX] (fun e => e = awX.d) v' w' ∧ Below w.heap.size w w' :=
 aw_ap [] [awX] [awX.d] _ _ _ [awX] v d w hv hd hm (fun c hr _ => rset0 hr) (fun c hr hk => rdelX hr ((hk _).2 rfl)) (by decide) (by simp) (fun c dc h1 _ L' h => perm_one (by have e : newOf c [awX] = [awX] := new_one (fun hk => (h1 _).1 hk); rw [e] at h; exact h)) (fun e => by simp) (fun c hr hk => cl_one hr hk (fun e h => h.elim)) (fun c hr hk => cl_one hr hk (fun e h => by rw [h]; simp [awX]))
theorem aw_ap3 (d : Value) (w : World) (hd : ChgV 0 [] [] awS d w) (hm : MX w) : Calls Tryz.prog 9 #[.agg #[.slice none 0 0, .slice none 0 0, .slice none 0 0], d] w fun e w' => ∃ v', e = .returned v' ∧ SetV 0 [] awS v' w' ∧ Below w.heap.size w w' := by
 have hv : SetV 0 [] (fun _ => False) (.agg #[.slice none 0 0, .slice none 0 0, .slice none 0 0]) w := ⟨none, 0, 0, none, 0, 0, none, 0, 0, ([], []), rfl, World.ownsRow_nil _ _ _ _, ⟨_, _, _, _, rfl, World.ownsRow_nil _ _ _ _, World.ownsRow_nil _ _ _ _⟩, 0, ⟨right_nil, fun d => ⟨kn_nil d, False.elim⟩, by simp, by simp⟩⟩
 exact aw_ap [] [] [] _ _ _ [] _ d w hv hd hm (fun c hr _ => rset0 hr) (fun c hr _ => rdel0 hr) (by decide) (by simp) (fun c dc _ _ L' h => perm_nil h) (fun e => by simp) (fun c hr hk => cl_one hr hk (fun e h => h.elim)) (fun c hr hk => cl_one hr hk (fun e h => by rcases h with rfl | rfl <;> simp))
theorem new_kn {c : dm.Ctx} (h : dm.Knows c awX.d) : newOf c [awX] = [] := by
 have hk := dm.hasF_iff.2 h
 simp [newOf, hk]
theorem aw_ap4 (v d : Value) (w : World) (hv : SetV 0 [] awS v w) (hd : ChgV 0 [awX] [awX.d] (fun e => e = awX.d) d w) (hm : MX w) : Calls Tryz.prog 9 #[v, d] w fun e w' => ∃ v', e = .returned v' ∧ SetV 0 [] awS v' w' ∧ Below w.heap.size w w' :=
 aw_ap [] [awX] [awX.d] _ _ _ [] v d w hv hd hm (fun c hr _ => rset0 hr) (fun c hr hk => rdelX hr ((hk _).2 rfl)) (by decide) (by simp) (fun c dc h1 _ L' h => perm_nil (by rw [new_kn ((h1 _).2 (Or.inl rfl))] at h; exact h)) (fun e => ⟨fun h => h.elim id (fun h => Or.inl h), Or.inl⟩) (fun c hr hk => cl_one hr hk (fun e h => by rcases h with rfl | rfl <;> simp)) (fun c hr hk => cl_one hr hk (fun e h => by rw [h]; simp [awX]))
theorem aw_rem2 (v : Value) (w : World) (hv : SetV 0 [awX] (fun e => e = awX.d) v w) (hm : MX w) : Calls Tryz.prog 21 #[v, .string (nam 0), .agg #[.int .i64 1, .int .i64 2]] w fun e w' => ∃ v0 v1, e = .returned (.tuple #[v0, v1]) ∧ SetV 0 [] awS v0 w' ∧ ChgV 0 [] [] awS v1 w' ∧ Below w.heap.size w w' := by
 obtain ⟨a0, n0, c0, a1, n1, c1, a2, n2, c2, cc, rfl, h1, h3, m, h4⟩ := hv
 have hk := (h4.know awX.d).2 rfl
 have hcl := cl_one h4.right h4.know (fun e h => by rw [h]; simp [awX])
 have hgn : goneOf (fun x => decide (x.s = nam 0)) [awX] = [awX.d] := by simp [goneOf, awX]
 have hst : staysOf (fun x => decide (x.s = nam 0)) [awX] = [] := by simp [staysOf, awX]
 refine (orem_any [awX] cc (1, 2) (nam 0) _ _ _ w h1.at h3.at (rsetX h4.right hk) rfl (fun hh => by have := (h4.know _).1 hh; simp [awX] at this) (by simp) (by omega) hm).mono ?_
 rintro e w' (⟨h, _⟩ | ⟨_, u0, u1, u2, t2, t3, c', dc, rfl, g1, g2, g3, g4, ⟨m', g5⟩, g6⟩)
 ·
  rw [hgn] at h; cases h
 ·
  rw [hst] at g1
  rw [hgn] at g5
  exact ⟨_, _, rfl, SetV.mk g1 g2 (isC g4 fun e => by rw [h4.know]; exact Iff.rfl), ChgV.mk (World.ownsRow_nil _ _ _ _ : EntO 0 w' _ []) (World.ownsRow_nil _ _ _ _ : DotO 0 w' _ []) (g3.low (Nat.zero_le _)) (isC g5 fun e => ⟨fun h => by simpa [awS, awX] using h.2, fun h => ⟨by rcases h with rfl | rfl <;> rfl, by simpa [awS, awX] using h⟩⟩), g6⟩
theorem aw_same (v v' : Value) (w : World) (h : SetV 0 [awX] (fun e => e = awX.d) v w) (h' : SetV 0 [awX] (fun e => e = awX.d) v' w) : Calls Tryz.prog 14 #[v, v'] w (Said true w) := by
 obtain ⟨a0, n0, c0, a1, n1, c1, a2, n2, c2, cc, rfl, h1, h3, m, h4⟩ := h
 obtain ⟨b0, m0, d0, b1, m1, d1, b2, m2, d2, cd, rfl, g1, g3, m', g4⟩ := h'
 obtain rfl := h4.eq g4 fun d => Iff.rfl
 exact osame_yes [awX] cc _ _ _ _ _ _ w h1.at h3.at g1.at g3.at
theorem SetV.len {B : Nat} {l : List Ent} {S : Dot → Prop} {v : Value} {w : World} (h : SetV B l S v w) : ∃ a0 c0 a1 n1 c1 a2 n2 c2, v = .agg #[.slice a0 l.length c0, .slice a1 n1 c1, .slice a2 n2 c2] := by
 obtain ⟨a0, n0, c0, a1, n1, c1, a2, n2, c2, cc, rfl, h1, h3, m, h4⟩ := h
 obtain ⟨a, c, e⟩ := own_slice h1
 cases e
 exact ⟨_, _, _, _, _, _, _, _, rfl⟩
end Go.Proofs.YthpdmfkpiekonaaGreat
