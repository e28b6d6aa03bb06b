/-
  Layer 8's example by numbers: the public keys of the eight leaves of one seed; what comes of another text with a signature is not the seed's public key.
-/
import Derived.Test.YtoednighmdoooaaSignMath
import Derived.Test.YtoednighmdoooaaConst
namespace Go.Proofs.Ytoednighmdoooaa
set_option maxRecDepth 100000

def tsixN : Nat := 134778811856517151565055554766324834401
theorem abc_word : fourN 3 6513249 % 4294967296 = 2984082420 := by decide +kernel
theorem abd_word : fourN 3 6578785 % 4294967296 = 3838316775 := by decide +kernel
theorem leaf_0 : leafN tsixN 0 = 149017575777172516713466997922144091564 := by decide +kernel
theorem leaf_1 : leafN tsixN 1 = 133685080125375638646497975507860559348 := by decide +kernel
theorem leaf_2 : leafN tsixN 2 = 92836817520747565928051606284845087305 := by decide +kernel
theorem leaf_3 : leafN tsixN 3 = 173892422960645996582216592600393031516 := by decide +kernel
theorem leaf_4 : leafN tsixN 4 = 169682882503693980783299743187053853114 := by decide +kernel
theorem leaf_5 : leafN tsixN 5 = 145096150219729483841275164497566675699 := by decide +kernel
theorem leaf_6 : leafN tsixN 6 = 42735990713247182408255859296786666808 := by decide +kernel
theorem leaf_7 : leafN tsixN 7 = 91503232009733321946460851394585265361 := by decide +kernel
theorem sig_abc : valsNN tsixN 0 (digL 2984082420) 10 = 18312540948830432787947566849348781999870939809353140118406105930388541230066826560249798340292085199260306297316880517460522262092344333533360365095218516402628405431630008339192961367988427007951321368493761902557308219233188533797357860788303778467015269879340363270562899855195140839494163819851622029631132921425513554081080959130240956331514851717497421927725961411733036445648054 := by decide +kernel
theorem bad_abd : pubNN 0 (takenNN 0 (digL 3838316775) 18312540948830432787947566849348781999870939809353140118406105930388541230066826560249798340292085199260306297316880517460522262092344333533360365095218516402628405431630008339192961367988427007951321368493761902557308219233188533797357860788303778467015269879340363270562899855195140839494163819851622029631132921425513554081080959130240956331514851717497421927725961411733036445648054 10) = 206712695102479866827778957751676836576 := by decide +kernel
theorem node_1 (i a b c : Nat) (h1 : leafN tsixN (2 * i) = a) (h2 : leafN tsixN (2 * i + 1) = b) (h3 : upN 0 a b = c) : nodeN tsixN 1 i = c := by
  subst h1; subst h2; exact h3
theorem node_1_0 : nodeN tsixN 1 0 = 74398406962418095478408828989313758272 := node_1 0 _ _ _ leaf_0 leaf_1 (by decide +kernel)
theorem node_1_1 : nodeN tsixN 1 1 = 165633550185873357757923063184863937216 := node_1 1 _ _ _ leaf_2 leaf_3 (by decide +kernel)
theorem node_1_2 : nodeN tsixN 1 2 = 32136938344410261548053311128685342203 := node_1 2 _ _ _ leaf_4 leaf_5 (by decide +kernel)
theorem node_1_3 : nodeN tsixN 1 3 = 203864144267145311809897177865946872479 := node_1 3 _ _ _ leaf_6 leaf_7 (by decide +kernel)
theorem node_2 (i a b c : Nat) (h1 : nodeN tsixN 1 (2 * i) = a) (h2 : nodeN tsixN 1 (2 * i + 1) = b) (h3 : upN 1 a b = c) : nodeN tsixN 2 i = c := by
  subst h1; subst h2; exact h3
theorem node_2_0 : nodeN tsixN 2 0 = 226288807809112535847903143325040096416 := node_2 0 _ _ _ node_1_0 node_1_1 (by decide +kernel)
theorem node_2_1 : nodeN tsixN 2 1 = 162591354546285430296514927900385771832 := node_2 1 _ _ _ node_1_2 node_1_3 (by decide +kernel)
theorem root_ (a b c : Nat) (h1 : nodeN tsixN 2 0 = a) (h2 : nodeN tsixN 2 1 = b) (h3 : upN 2 a b = c) : nodeN tsixN 3 0 = c := by
  subst h1; subst h2; exact h3
theorem root_is : nodeN tsixN 3 0 = 335300776812778603758499461952381160089 := root_ _ _ _ node_2_0 node_2_1 (by decide +kernel)
/-- What comes of abd with the signature of abc. -/
theorem other_is : upN 2 (upN 1 (upN 0 (pubNN 0 (takenNN 0 (digL 3838316775) (valsNN tsixN 0 (digL 2984082420) 10) 10)) (leafN tsixN 1)) (nodeN tsixN 1 1)) (nodeN tsixN 2 1) = 82818020861907182777631064969063573235 := by
  rw [sig_abc, bad_abd, leaf_1, node_1_1, node_2_1]
  decide +kernel

def tabd : List UInt8 := [97, 98, 100]
theorem first_word (s : List UInt8) : (fourW s).a.toNat = fourN s.length (leN s) % 4294967296 := by rw [fourN_pk, pk_a]
theorem abc_first : (fourW tabc).a.toNat = 2984082420 := by rw [first_word]; exact abc_word
theorem abd_first : (fourW tabd).a.toNat = 3838316775 := by rw [first_word]; exact abd_word
theorem tsix_num : leN tsix = tsixN := by decide +kernel
/-- abd is not right with the signature of abc. -/
theorem abd_not : climbL 0 (fun h => nodeL tsix h (sib (0 / 2 ^ h))) (pubL 0 (takenL 0 (digL (fourW tabd).a.toNat) (valsL tsix 0 (digL (fourW tabc).a.toNat) 10) 10)) 3 ≠ nodeL tsix 3 0 := by
  intro h
  have hs : tsix.length = 16 := rfl
  have h0 := valsL_length tsix 0 (digL (fourW tabc).a.toNat) 10
  have ht := takenL_length 0 (digL (fourW tabd).a.toNat) (valsL tsix 0 (digL (fourW tabc).a.toNat) 10) 10 (by omega)
  have h1 := congrArg leN h
  rw [node_num tsix hs 3 0 (by omega) (by omega), tsix_num, root_is] at h1
  have e : ∀ x : List UInt8, climbL 0 (fun h => nodeL tsix h (sib (0 / 2 ^ h))) x 3 = upL 2 (upL 1 (upL 0 x (nodeL tsix 0 1)) (nodeL tsix 1 1)) (nodeL tsix 2 1) := fun x => by
    simp [climbL, sib]
  rw [e, up_num 2 _ _ (by omega) (upL_length _ _ _) (nodeL_length _ _ _), up_num 1 _ _ (by omega) (upL_length _ _ _) (nodeL_length _ _ _), up_num 0 _ _ (by omega) (pubL_length _ _) (nodeL_length _ _ _),
    node_num tsix hs 0 1 (by omega) (by omega), node_num tsix hs 1 1 (by omega) (by omega), node_num tsix hs 2 1 (by omega) (by omega), pub_num 0 _ (by omega) (by rw [ht]),
    taken_num 0 _ _ (by omega) (by rw [h0]) (fun k h => digL_le _ k h) 10 (by omega), vals_num tsix 0 _ hs (by omega) (fun k h => digL_le _ k h) 10 (by omega), tsix_num, abc_first, abd_first] at h1
  rw [show nodeN tsixN 0 1 = leafN tsixN 1 from rfl, other_is] at h1
  revert h1
  decide +kernel
end Go.Proofs.Ytoednighmdoooaa
